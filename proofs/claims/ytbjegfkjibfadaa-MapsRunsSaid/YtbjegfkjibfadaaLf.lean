/- MapsRuns. -/
import Derived.Test.YtbjegfkjibfadaaLe
set_option linter.unusedVariables false
set_option linter.unusedSimpArgs false
namespace Go.Proofs.Ytbjegfkjibfadaa
open Go.RowKit
set_option linter.unusedVariables false
set_option linter.unusedSimpArgs false
set_option maxHeartbeats 8000000 in
set_option maxRecDepth 100000 in
theorem runs_all (A : Option Addr) (n c : Nat) (us : List Mp) (x : Int) (w : World) (hl : us.length = n) (hr : LV 5 encM w A us) :
    Calls Try.prog 3 #[.slice A n c, .int .i64 x] w fun e w' => e = .returned (.bool true) ∧ Below w.heap.size w w' := by
  have CF := Lib.hid (fit_any w)
  have HL := Lib.hid hl
  have HR := Lib.hid hr
  clear hl hr
  go_enter Try.func3, Try.ntmps3
  go_wp2_with fail
  refine CF.out.mono ?_; rintro e w1 ⟨rfl, hb1⟩
  have HB1 := Lib.hid hb1
  clear CF hb1
  by_cases hbig : n > 60
  · have g1 : (n : Int) > 60 := by omega
    have g2 : (60 : Int) < n := g1
    clear hbig
    go_wp2_with fail
    go_ret
    exact ⟨rfl, HB1.out⟩
  · have g1 : ¬ (n : Int) > 60 := by omega
    have g2 : ¬ (60 : Int) < n := g1
    have HN := Lib.hid hbig
    have HX := Lib.hid (RS.start w HB1.out)
    clear hbig HB1
    go_wp2_with fail
    go_loopg [5, 6, 32] n (fun gh vg vw i wr => ∃ k : Nat, k ≤ n ∧ gh = n - k ∧ i = .int .i64 k ∧ Hid (∃ P G W, RS w P vg vw G W wr))
    case atStart => exact ⟨0, by omega, by omega, rfl, Lib.hid ⟨_, _, _, HX.out⟩⟩
    case round =>
      clear HX
      obtain ⟨k, hk, hg, rfl, hI⟩ := hrel
      obtain ⟨P, G, W, hrs⟩ := hI.out
      obtain ⟨lw, elw⟩ : ∃ lw, W.length = lw := ⟨_, rfl⟩
      have elg : G.length = lw := by rw [hrs.pm.length_eq]; exact elw
      obtain ⟨Ag, cg, rfl, hcg, hcmg, hrg⟩ := hrs.rg.open_ elg
      obtain ⟨Aw, cw, rfl, hcw, hcmw, hrw⟩ := hrs.rw.open_ elw
      have HA := Lib.hid (And.intro hrs (And.intro hcg (And.intro hcmg (And.intro hrg (And.intro hcw (And.intro hcmw hrw))))))
      have HE := Lib.hid (And.intro elw elg)
      have h16 : lw ≤ 16 := by rw [← elw]; exact hrs.wlen
      have H16 := Lib.hid h16
      by_cases hlt : k < n
      · obtain ⟨m, hy⟩ : ∃ m, us[k]? = some m := ⟨_, List.getElem?_eq_getElem (by rw [HL.out]; exact hlt)⟩
        obtain ⟨B, off, rfl, _, c0, c1, c2, c3, c4⟩ := (HR.out.below hrs.b).five hy
        have b1 := below_alloc1 wr (blkM m)
        have B1 := Lib.hid (And.intro b1 (Five.row (t := 26) (heap_alloc_new wr (blkM m))))
        have hn := HN.out
        obtain ⟨k5, ek5⟩ : ∃ k5 : Nat, k % 5 = k5 := ⟨_, rfl⟩
        have i1 : (k : Int).tmod 5 = (k5 : Int) := by rw [Int.tmod_eq_emod_of_nonneg (by omega)]; omega
        have l1 : (k : Int) < n := by omega
        have i2 : IntKind.i64.wrap ((k : Int) + 1) = (k : Int) + 1 := by rw [IntKind.wrap_i64]; omega
        have I1 := Lib.hid i1
        have I2 := Lib.hid i2
        clear i1 i2
        have CM := Lib.hid (fun W => fits_any m.a m.s m.f m.n m.w W)
        have hok := @Mp.ok_iff m
        have hko : m.ok = okB m.a m.s m.f m.n := rfl
        obtain ⟨v, ev⟩ : ∃ v, okB m.a m.s m.f m.n = v := ⟨_, rfl⟩
        rw [ev] at CM
        have HV := Lib.hid (show m.ok = v from ev)
        obtain ⟨z1', z2', z3', z4', z5'⟩ := B1.out.2
        obtain ⟨m0, em0⟩ : ∃ m0, m0 = m := ⟨_, rfl⟩
        have EM := Lib.hid em0
        obtain ⟨a, s, f, nn, wt⟩ := m
        simp only [] at c0 c1 c2 c3 c4 CM z1' z2' z3' z4' z5'
        clear hcg hcmg hrg hcw hcmw hrw hy b1 hn hok hko ev em0 elg elw hI
        by_cases h5 : k5 = 4
        · have q5 : ((k5 : Int) == 4) = true := by subst h5; rfl
          by_cases h0 : lw = 0
          · have q0 : ¬ (lw : Int) > 0 := by omega
            have q0' : ¬ (0 : Int) < lw := q0
            have H00 := Lib.hid h0
            clear ek5 h5 h0 hrs
            have i1 := I1.out
            go_wp2_with fail
            refine (CM.out _).mono ?_; rintro e w2 ⟨rfl, hb2⟩
            have HB2 := Lib.hid (And.intro (below_up B1.out.1 hb2) (B1.out.2.below hb2))
            clear hb2 CM c0 c1 c2 c3 c4 z1' z2' z3' z4' z5' i1 I1
            try clear q0 q0'
            go_wp2_with fail
            go_loopg [15, 90] lw (fun gh vb i wx => ∃ j : Nat, j ≤ lw ∧ gh = lw - j ∧ i = .int .i64 j ∧ (∃ b : Bool, vb = .bool b ∧ Hid (b = (!v || ovl (W.take j) ⟨a, s, f, nn, wt⟩))) ∧ Hid (Below w2.heap.size w2 wx))
            case atStart => exact ⟨0, by omega, by omega, rfl, ⟨!v, rfl, Lib.hid (by simp [ovl])⟩, Lib.hid (Below.refl _ _)⟩
            case round =>
              obtain ⟨j, hj, hgj, rfl, ⟨bb, rfl, hbb⟩, hJ⟩ := hrel
              have hb0 := Five.below HB2.out.2 hJ.out
              obtain ⟨z1', z2', z3', z4', z5'⟩ := hb0
              simp only [] at z1' z2' z3' z4' z5'
              by_cases hlj : j < lw
              · exact absurd hlj (by have := H00.out; omega)
              · have hjn : ¬ (j : Int) < lw := by omega
                have hwt : W.take j = W := List.take_of_length_le (by have := HE.out.1; omega)
                have hbb' := hbb.out
                rw [hwt, ← ovl_perm _ HA.out.1.pm] at hbb'
                have HBB := Lib.hid hbb'
                have HBX := Lib.hid (And.intro (below_up HB2.out.1 hJ.out) (HB2.out.2.below hJ.out))
                have HS := Lib.hid (HA.out.1.below HBX.out.1)
                have h16 := H16.out
                clear hwt hbb' hbb hlj hj hgj hJ HB2 B1
                cases bb
                · have hvv : v = true ∧ ovl G ⟨a, s, f, nn, wt⟩ = false := by
                    have := HBB.out
                    cases v with
                    | true => exact ⟨rfl, by simpa using this.symm⟩
                    | false => simp at this
                  by_cases hf : lw = 16
                  · have q1 : ((lw : Int) == 16) = true := by rw [hf]; rfl
                    have q2 : ((lw : Int) = 16) := by rw [hf]; rfl
                    have CA := Lib.hid (add_full (c := cg) ⟨a, s, f, nn, wt⟩ HE.out.2 h16 HA.out.2.1 HA.out.2.2.1 (HA.out.2.2.2.1.below HBX.out.1) HA.out.1.sp (HV.out.trans hvv.1) hvv.2 hf)
                    clear hvv hf q2 h16
                    go_wp2_with fail
                    refine CA.out.mono ?_; rintro e w5 ⟨rfl, hb5⟩
                    have HS5 := Lib.hid (HS.out.below hb5)
                    have CR := Lib.hid (right_any (c := cg) HE.out.2 (by have := H16.out; omega) ((HA.out.2.2.2.1.below HBX.out.1).below hb5))
                    have HQ : Hid (rightB G = true) := Lib.hid (rightB_iff.2 ⟨HA.out.1.len, HA.out.1.sp⟩)
                    rw [HQ.out] at CR
                    obtain ⟨z1', z2', z3', z4', z5'⟩ := HBX.out.2.below hb5
                    simp only [] at z1' z2' z3' z4' z5'
                    clear CA hb5 HQ
                    go_wp2_with fail
                    refine CR.out.mono ?_; rintro e w6 ⟨rfl, hb6⟩
                    have HS6 := Lib.hid (HS5.out.below hb6)
                    have i2 := I2.out
                    clear hb6 CR
                    go_wp2_with fail
                    go_roundg (n - (k + 1))
                    case rel => exact ⟨k + 1, by omega, rfl, by simp, Lib.hid ⟨_, _, _, HS6.out⟩⟩
                    case measure => first | omega | (simp; omega)
                  · have q1 : ((lw : Int) == 16) = false := by rw [beq_eq_false_iff_ne]; omega
                    have CA := Lib.hid (add_good (c := cg) ⟨a, s, f, nn, wt⟩ HE.out.2 h16 HA.out.2.1 HA.out.2.2.1 (HA.out.2.2.2.1.below HBX.out.1) HA.out.1.sp (HV.out.trans hvv.1) hvv.2 (by omega))
                    have HL16 := Lib.hid hf
                    clear hvv hf h16
                    go_wp2_with fail
                    refine CA.out.mono ?_; rintro e w5 ⟨vn, ln, rfl, hvn, hsn, hpn, hb5⟩
                    have hbw5 := below_up HBX.out.1 hb5
                    have hvn' := hvn.mono fun b hb => Nat.le_trans HBX.out.1.size hb
                    have hln : ln.length = lw + 1 := by rw [hpn.length_eq, List.length_cons, HE.out.2]
                    obtain ⟨vw2, w6, P2, hrun, hrs6, _⟩ := HA.out.1.app (m := ⟨a, s, f, nn, wt⟩) hbw5 hvn' hsn hpn (by rw [hln]; have := H16.out; have := HL16.out; omega)
                    have HS6 := Lib.hid hrs6
                    have HRUN := Lib.hid hrun
                    obtain ⟨lw2, elw2⟩ : ∃ lw2, lw + 1 = lw2 := ⟨_, rfl⟩
                    rw [elw2] at hln
                    obtain ⟨Agn, cgn, rfl, _, _, _⟩ := hvn'.open_ hln
                    obtain ⟨A6, c6, e7, _, _, hrg6⟩ := hrs6.rg.open_ hln
                    injection e7 with e8 e9 e10
                    rw [← e8] at hrg6
                    obtain ⟨Aw2, cw2, rfl, _, _, _⟩ := hrs6.rw.open_ (show (W ++ [_]).length = lw2 by rw [List.length_append, HE.out.1, List.length_singleton]; exact elw2)
                    have CR := right_any (c := cgn) hln (by have := H16.out; omega) hrg6
                    rw [rightB_iff.2 ⟨hrs6.len, hrs6.sp⟩] at CR
                    have CR := Lib.hid CR
                    obtain ⟨z1', z2', z3', z4', z5'⟩ := HBX.out.2.below hb5
                    simp only [] at z1' z2' z3' z4' z5'
                    clear hvn hsn hpn hb5 hbw5 hvn' hln hrun hrs6 e8 e9 e10 hrg6 elw2 CA
                    go_wp2_with (at_builtin; refine wpList_append_by rfl (.tmp 128) (.tmp 130) _ _ rfl _ _ _ rfl rfl w6 HRUN.out ?_)
                    go_wp2_with fail
                    refine CR.out.mono ?_; rintro e w7 ⟨rfl, hb7⟩
                    have HS7 := Lib.hid (HS6.out.below hb7)
                    have i2 := I2.out
                    clear hb7 CR
                    go_wp2_with fail
                    go_roundg (n - (k + 1))
                    case rel => exact ⟨k + 1, by omega, rfl, by simp, Lib.hid ⟨_, _, _, HS7.out⟩⟩
                    case measure => first | omega | (simp; omega)
                · have hvv : Mp.ok ⟨a, s, f, nn, wt⟩ = false ∨ ovl G ⟨a, s, f, nn, wt⟩ = true := by
                    have := HBB.out
                    cases v with
                    | true => exact .inr (by simpa using this.symm)
                    | false => exact .inl HV.out
                  have CA := Lib.hid (add_bad (c := cg) ⟨a, s, f, nn, wt⟩ HE.out.2 h16 HA.out.2.1 HA.out.2.2.1 (HA.out.2.2.2.1.below HBX.out.1) HA.out.1.sp hvv)
                  clear hvv h16
                  go_wp2_with fail
                  refine CA.out.mono ?_; rintro e w5 ⟨rfl, hb5⟩
                  have HS5 := Lib.hid (HS.out.below hb5)
                  have CR := Lib.hid (right_any (c := cg) HE.out.2 (by have := H16.out; omega) ((HA.out.2.2.2.1.below HBX.out.1).below hb5))
                  have HQ : Hid (rightB G = true) := Lib.hid (rightB_iff.2 ⟨HA.out.1.len, HA.out.1.sp⟩)
                  rw [HQ.out] at CR
                  obtain ⟨z1', z2', z3', z4', z5'⟩ := HBX.out.2.below hb5
                  simp only [] at z1' z2' z3' z4' z5'
                  clear CA hb5 HQ
                  go_wp2_with fail
                  refine CR.out.mono ?_; rintro e w6 ⟨rfl, hb6⟩
                  have HS6 := Lib.hid (HS5.out.below hb6)
                  have i2 := I2.out
                  clear hb6 CR
                  go_wp2_with fail
                  go_roundg (n - (k + 1))
                  case rel => exact ⟨k + 1, by omega, rfl, by simp, Lib.hid ⟨_, _, _, HS6.out⟩⟩
                  case measure => first | omega | (simp; omega)
          · have q0 : (lw : Int) > 0 := by omega
            have q0' : (0 : Int) < lw := q0
            clear ek5 h5
            obtain ⟨t, y, i, e1, e2, e3, hi⟩ := place_of a lw (by omega) (by omega)
            have e2' : IntKind.i64.wrap (t + lw) = y := by rw [← e2, IntKind.wrap_i64]; unfold RowKit.wrap64; omega
            obtain ⟨p, hp⟩ : ∃ p, W[i]? = some p := ⟨_, List.getElem?_eq_getElem (by rw [HE.out.1]; exact hi)⟩
            obtain ⟨B2, o2, rfl, _, d0, d1, d2, d3, d4⟩ := (HA.out.2.2.2.2.2.2.below B1.out.1).five hp
            have HP := Lib.hid hp
            have l2 : (i : Int) < lw := Int.ofNat_lt.2 hi
            have CR := Lib.hid (remove_any (c := cg) p.a HE.out.2 (Nat.le_trans H16.out (by decide)) HA.out.2.1 HA.out.2.2.1 (HA.out.2.2.2.1.below B1.out.1))
            obtain ⟨pa, ps, pf, pn, pw⟩ := p
            simp only [] at d0 d1 d2 d3 d4 CR
            clear hrs hp hi h16
            have i1 := I1.out
            go_wp2_with fail
            refine CR.out.mono ?_; rintro e w2 ⟨h2, hb2⟩
            have HB2 := Lib.hid (below_up B1.out.1 hb2)
            have HBW := Lib.hid (B1.out.1.size)
            obtain ⟨l1', xx, l2', v2, he, hx, rfl, hv2⟩ : ∃ l1 m l2 v, G = l1 ++ m :: l2 ∧ m.a = pa ∧ e = .returned (.tuple #[v, .int .i64 0]) ∧ RV (fun b => (wr.alloc (blkM ⟨a, s, f, nn, wt⟩)).heap.size ≤ b) 26 5 encM w2 v (l1 ++ l2) := by
              rcases h2 with ⟨h2, _⟩ | h2
              · exact absurd rfl (h2 ⟨pa, ps, pf, pn, pw⟩ (HA.out.1.pm.mem_iff.2 (List.mem_of_getElem? HP.out)))
              · exact h2
            have HG := Lib.hid (show (l1' ++ l2') = less pa G ∧ Sp (l1' ++ l2') from by
              have hsp := HA.out.1.sp
              rw [he] at hsp ⊢
              have := hsp.less
              rw [hx] at this
              exact ⟨this.2, this.1⟩)
            have HV2 := Lib.hid (hv2.mono fun b hb => Nat.le_trans HBW.out hb)
            have HW := Lib.hid (HA.out.2.2.2.2.2.2.below HB2.out)
            clear h2 hb2 CR he hx hv2 HBW CM c0 c1 c2 c3 c4 d0 d1 d2 d3 d4 z1' z2' z3' z4' z5' e1 e2 e2' e3 B1 i1 I1
            go_wp2_with fail
            go_loopg [12, 71] lw (fun gh vl i wx => ∃ j : Nat, j ≤ lw ∧ gh = lw - j ∧ i = .int .i64 j ∧ Hid (RV (fun b => w2.heap.size ≤ b) 26 5 encM wx vl (less pa (W.take j)) ∧ Below w2.heap.size w2 wx))
            case atStart => exact ⟨0, by omega, by omega, rfl, Lib.hid ⟨RV.nil _ _, Below.refl _ _⟩⟩
            case round =>
              obtain ⟨j, hj, hgj, rfl, hJ⟩ := hrel
              by_cases hlj : j < lw
              · obtain ⟨y, hy⟩ : ∃ y, W[j]? = some y := ⟨_, List.getElem?_eq_getElem (by rw [HE.out.1]; exact hlj)⟩
                obtain ⟨B3, o3, e0, _, c0, c1, c2, c3, c4⟩ := (HW.out.below hJ.out.2).five hy
                injection e0 with e0
                injection e0 with e0 e0'
                subst e0 e0'
                have hnext := less_next (p := pa) hy
                have bx := below_alloc1 wr (blkM y)
                have BX := Lib.hid (And.intro (below_up hJ.out.2 bx) (hJ.out.1.below bx))
                have hlw := H16.out
                have l3 : (j : Int) < lw := by omega
                have i3 : IntKind.i64.wrap ((j : Int) + 1) = (j : Int) + 1 := by rw [IntKind.wrap_i64]; omega
                by_cases hya : y.a = pa
                · have q1 : (y.a != pa) = false := by simp [hya]
                  rw [if_pos hya, List.append_nil] at hnext
                  have HNX := Lib.hid (show RV (fun b => w2.heap.size ≤ b) 26 5 encM (wr.alloc (blkM y)) _ (less pa (W.take (j + 1))) ∧ Below w2.heap.size w2 (wr.alloc (blkM y)) from ⟨by rw [hnext]; exact BX.out.2, BX.out.1⟩)
                  obtain ⟨ya, ys, yf, yn, yw⟩ := y
                  simp only [] at c0 c1 c2 c3 c4 q1
                  clear hy hnext bx hlw hya BX
                  go_wp2_with fail
                  go_roundg (lw - (j + 1))
                  case rel => exact ⟨j + 1, by omega, rfl, by simp, HNX⟩
                  case measure => first | omega | (simp; omega)
                · have q1 : (y.a != pa) = true := by simp [hya]
                  rw [if_neg hya] at hnext
                  obtain ⟨v', w', hrun, hr', hb'⟩ := left_app (x := y) BX.out.1 BX.out.2 (by have := less_le pa W j; have := HE.out.1; omega)
                  rw [← hnext] at hr'
                  rw [show (wr.alloc (blkM y)).heap.size = wr.heap.size + 1 from by simp] at hrun
                  have HNX := Lib.hid (And.intro hr' hb')
                  have HRUN := Lib.hid hrun
                  obtain ⟨ya, ys, yf, yn, yw⟩ := y
                  simp only [] at c0 c1 c2 c3 c4 q1
                  clear hy hnext bx hlw hya BX hrun hr' hb'
                  go_wp2_with (at_builtin; refine wpList_append_by rfl (.tmp 79) (.tmp 81) _ _ rfl _ _ _ rfl rfl w' HRUN.out ?_)
                  go_wp2_with fail
                  go_roundg (lw - (j + 1))
                  case rel => exact ⟨j + 1, by omega, rfl, by simp, HNX⟩
                  case measure => first | omega | (simp; omega)
              · have hjn : ¬ (j : Int) < lw := by omega
                have hwt : W.take j = W := List.take_of_length_le (by have := HE.out.1; omega)
                have hJ' := hJ.out
                rw [hwt] at hJ'
                have HRS := Lib.hid (HA.out.1.left HB2.out HV2.out hJ'.2 hJ'.1 HG.out.2 (by rw [HG.out.1]; exact HA.out.1.pm.filter _) (by rw [HG.out.1]; exact Nat.le_trans (List.length_filter_le _ _) HA.out.1.len))
                have i2 := I2.out
                clear hwt hJ' hlj hj hgj hJ
                go_wp2_with fail
                go_roundg (n - (k + 1))
                case rel => exact ⟨k + 1, by omega, rfl, by simp, Lib.hid ⟨_, _, _, HRS.out⟩⟩
                case measure => first | omega | (simp; omega)
        · have q5 : ((k5 : Int) == 4) = false := by rw [beq_eq_false_iff_ne]; omega
          clear ek5 h5 hrs
          have i1 := I1.out
          go_wp2_with fail
          refine (CM.out _).mono ?_; rintro e w2 ⟨rfl, hb2⟩
          have HB2 := Lib.hid (And.intro (below_up B1.out.1 hb2) (B1.out.2.below hb2))
          clear hb2 CM c0 c1 c2 c3 c4 z1' z2' z3' z4' z5' i1 I1
          try clear q0 q0'
          go_wp2_with fail
          go_loopg [15, 90] lw (fun gh vb i wx => ∃ j : Nat, j ≤ lw ∧ gh = lw - j ∧ i = .int .i64 j ∧ (∃ b : Bool, vb = .bool b ∧ Hid (b = (!v || ovl (W.take j) ⟨a, s, f, nn, wt⟩))) ∧ Hid (Below w2.heap.size w2 wx))
          case atStart => exact ⟨0, by omega, by omega, rfl, ⟨!v, rfl, Lib.hid (by simp [ovl])⟩, Lib.hid (Below.refl _ _)⟩
          case round =>
            obtain ⟨j, hj, hgj, rfl, ⟨bb, rfl, hbb⟩, hJ⟩ := hrel
            have hb0 := Five.below HB2.out.2 hJ.out
            obtain ⟨z1', z2', z3', z4', z5'⟩ := hb0
            simp only [] at z1' z2' z3' z4' z5'
            by_cases hlj : j < lw
            · obtain ⟨y, hy⟩ : ∃ y, W[j]? = some y := ⟨_, List.getElem?_eq_getElem (by rw [HE.out.1]; exact hlj)⟩
              obtain ⟨B3, o3, rfl, _, c0, c1, c2, c3, c4⟩ := (HA.out.2.2.2.2.2.2.below (below_up HB2.out.1 hJ.out)).five hy
              have HNX := Lib.hid (ovl_next (m := ⟨a, s, f, nn, wt⟩) hy)
              have hyo := HA.out.1.wok (List.mem_of_getElem? hy)
              have bx := below_alloc1 wr (blkM y)
              have BX := Lib.hid (below_up hJ.out bx)
              have hf2 := (HB2.out.2.below hJ.out).below bx
              have hlw := H16.out
              have l3 : (j : Int) < lw := by omega
              have i3 : IntKind.i64.wrap ((j : Int) + 1) = (j : Int) + 1 := by rw [IntKind.wrap_i64]; omega
              cases bb
              · have hv : v = true := by
                  have := hbb.out
                  cases v with
                  | true => rfl
                  | false => simp at this
                have hvo := Mp.ok_iff.1 (HV.out.trans hv)
                obtain ⟨o1, o2, o3', o4, _⟩ := hvo
                obtain ⟨y1, y2, y3, y4, _⟩ := hyo
                simp only [] at o1 o2 o3' o4
                have CO := Lib.hid (fun W => over_ok (a := y.a) (n := y.n) (a' := a) (n' := nn) y.s y.f s f y.w wt ⟨by omega, by omega, by omega, by omega⟩ ⟨by omega, by omega, by omega, by omega⟩ W)
                obtain ⟨q, eq⟩ : ∃ q, ovB y.a y.n a nn = q := ⟨_, rfl⟩
                rw [eq] at CO
                have HQ : Hid (q = (!v || ovl (W.take (j + 1)) ⟨a, s, f, nn, wt⟩)) := Lib.hid (by
                  have h1 := HNX.out
                  simp only [] at h1
                  rw [h1, eq, hv]
                  have h2 := hbb.out
                  rw [hv, Bool.not_true, Bool.false_or] at h2
                  rw [← h2]; rfl)
                obtain ⟨x1, x2, x3, x4, x5⟩ := hf2
                obtain ⟨ya, ys, yf, yn, yw⟩ := y
                simp only [] at c0 c1 c2 c3 c4 CO x1 x2 x3 x4 x5
                clear hy bx hlw eq hv o1 o2 o3' o4 y1 y2 y3 y4 z1' z2' z3' z4' z5'
                go_wp2_with fail
                refine (CO.out _).mono ?_; rintro e w3 ⟨rfl, hb3⟩
                have HB3 := Lib.hid (below_up BX.out hb3)
                clear hb3 CO c0 c1 c2 c3 c4 x1 x2 x3 x4 x5
                go_wp2_with fail
                go_roundg (lw - (j + 1))
                case rel => exact ⟨j + 1, by omega, rfl, by simp, ⟨q, rfl, HQ⟩, HB3⟩
                case measure => first | omega | (simp; omega)
              · have HQ : Hid (true = (!v || ovl (W.take (j + 1)) ⟨a, s, f, nn, wt⟩)) := Lib.hid (by
                  rw [HNX.out, ← Bool.or_assoc, ← hbb.out]; rfl)
                obtain ⟨ya, ys, yf, yn, yw⟩ := y
                simp only [] at c0 c1 c2 c3 c4
                clear hy hyo bx hlw hf2 z1' z2' z3' z4' z5'
                go_wp2_with fail
                go_roundg (lw - (j + 1))
                case rel => exact ⟨j + 1, by omega, rfl, by simp, ⟨true, rfl, HQ⟩, BX⟩
                case measure => first | omega | (simp; omega)
            · have hjn : ¬ (j : Int) < lw := by omega
              have hwt : W.take j = W := List.take_of_length_le (by have := HE.out.1; omega)
              have hbb' := hbb.out
              rw [hwt, ← ovl_perm _ HA.out.1.pm] at hbb'
              have HBB := Lib.hid hbb'
              have HBX := Lib.hid (And.intro (below_up HB2.out.1 hJ.out) (HB2.out.2.below hJ.out))
              have HS := Lib.hid (HA.out.1.below HBX.out.1)
              have h16 := H16.out
              clear hwt hbb' hbb hlj hj hgj hJ HB2 B1
              cases bb
              · have hvv : v = true ∧ ovl G ⟨a, s, f, nn, wt⟩ = false := by
                  have := HBB.out
                  cases v with
                  | true => exact ⟨rfl, by simpa using this.symm⟩
                  | false => simp at this
                by_cases hf : lw = 16
                · have q1 : ((lw : Int) == 16) = true := by rw [hf]; rfl
                  have q2 : ((lw : Int) = 16) := by rw [hf]; rfl
                  have CA := Lib.hid (add_full (c := cg) ⟨a, s, f, nn, wt⟩ HE.out.2 h16 HA.out.2.1 HA.out.2.2.1 (HA.out.2.2.2.1.below HBX.out.1) HA.out.1.sp (HV.out.trans hvv.1) hvv.2 hf)
                  clear hvv hf q2 h16
                  go_wp2_with fail
                  refine CA.out.mono ?_; rintro e w5 ⟨rfl, hb5⟩
                  have HS5 := Lib.hid (HS.out.below hb5)
                  have CR := Lib.hid (right_any (c := cg) HE.out.2 (by have := H16.out; omega) ((HA.out.2.2.2.1.below HBX.out.1).below hb5))
                  have HQ : Hid (rightB G = true) := Lib.hid (rightB_iff.2 ⟨HA.out.1.len, HA.out.1.sp⟩)
                  rw [HQ.out] at CR
                  obtain ⟨z1', z2', z3', z4', z5'⟩ := HBX.out.2.below hb5
                  simp only [] at z1' z2' z3' z4' z5'
                  clear CA hb5 HQ
                  go_wp2_with fail
                  refine CR.out.mono ?_; rintro e w6 ⟨rfl, hb6⟩
                  have HS6 := Lib.hid (HS5.out.below hb6)
                  have i2 := I2.out
                  clear hb6 CR
                  go_wp2_with fail
                  go_roundg (n - (k + 1))
                  case rel => exact ⟨k + 1, by omega, rfl, by simp, Lib.hid ⟨_, _, _, HS6.out⟩⟩
                  case measure => first | omega | (simp; omega)
                · have q1 : ((lw : Int) == 16) = false := by rw [beq_eq_false_iff_ne]; omega
                  have CA := Lib.hid (add_good (c := cg) ⟨a, s, f, nn, wt⟩ HE.out.2 h16 HA.out.2.1 HA.out.2.2.1 (HA.out.2.2.2.1.below HBX.out.1) HA.out.1.sp (HV.out.trans hvv.1) hvv.2 (by omega))
                  have HL16 := Lib.hid hf
                  clear hvv hf h16
                  go_wp2_with fail
                  refine CA.out.mono ?_; rintro e w5 ⟨vn, ln, rfl, hvn, hsn, hpn, hb5⟩
                  have hbw5 := below_up HBX.out.1 hb5
                  have hvn' := hvn.mono fun b hb => Nat.le_trans HBX.out.1.size hb
                  have hln : ln.length = lw + 1 := by rw [hpn.length_eq, List.length_cons, HE.out.2]
                  obtain ⟨vw2, w6, P2, hrun, hrs6, _⟩ := HA.out.1.app (m := ⟨a, s, f, nn, wt⟩) hbw5 hvn' hsn hpn (by rw [hln]; have := H16.out; have := HL16.out; omega)
                  have HS6 := Lib.hid hrs6
                  have HRUN := Lib.hid hrun
                  obtain ⟨lw2, elw2⟩ : ∃ lw2, lw + 1 = lw2 := ⟨_, rfl⟩
                  rw [elw2] at hln
                  obtain ⟨Agn, cgn, rfl, _, _, _⟩ := hvn'.open_ hln
                  obtain ⟨A6, c6, e7, _, _, hrg6⟩ := hrs6.rg.open_ hln
                  injection e7 with e8 e9 e10
                  rw [← e8] at hrg6
                  obtain ⟨Aw2, cw2, rfl, _, _, _⟩ := hrs6.rw.open_ (show (W ++ [_]).length = lw2 by rw [List.length_append, HE.out.1, List.length_singleton]; exact elw2)
                  have CR := right_any (c := cgn) hln (by have := H16.out; omega) hrg6
                  rw [rightB_iff.2 ⟨hrs6.len, hrs6.sp⟩] at CR
                  have CR := Lib.hid CR
                  obtain ⟨z1', z2', z3', z4', z5'⟩ := HBX.out.2.below hb5
                  simp only [] at z1' z2' z3' z4' z5'
                  clear hvn hsn hpn hb5 hbw5 hvn' hln hrun hrs6 e8 e9 e10 hrg6 elw2 CA
                  go_wp2_with (at_builtin; refine wpList_append_by rfl (.tmp 128) (.tmp 130) _ _ rfl _ _ _ rfl rfl w6 HRUN.out ?_)
                  go_wp2_with fail
                  refine CR.out.mono ?_; rintro e w7 ⟨rfl, hb7⟩
                  have HS7 := Lib.hid (HS6.out.below hb7)
                  have i2 := I2.out
                  clear hb7 CR
                  go_wp2_with fail
                  go_roundg (n - (k + 1))
                  case rel => exact ⟨k + 1, by omega, rfl, by simp, Lib.hid ⟨_, _, _, HS7.out⟩⟩
                  case measure => first | omega | (simp; omega)
              · have hvv : Mp.ok ⟨a, s, f, nn, wt⟩ = false ∨ ovl G ⟨a, s, f, nn, wt⟩ = true := by
                  have := HBB.out
                  cases v with
                  | true => exact .inr (by simpa using this.symm)
                  | false => exact .inl HV.out
                have CA := Lib.hid (add_bad (c := cg) ⟨a, s, f, nn, wt⟩ HE.out.2 h16 HA.out.2.1 HA.out.2.2.1 (HA.out.2.2.2.1.below HBX.out.1) HA.out.1.sp hvv)
                clear hvv h16
                go_wp2_with fail
                refine CA.out.mono ?_; rintro e w5 ⟨rfl, hb5⟩
                have HS5 := Lib.hid (HS.out.below hb5)
                have CR := Lib.hid (right_any (c := cg) HE.out.2 (by have := H16.out; omega) ((HA.out.2.2.2.1.below HBX.out.1).below hb5))
                have HQ : Hid (rightB G = true) := Lib.hid (rightB_iff.2 ⟨HA.out.1.len, HA.out.1.sp⟩)
                rw [HQ.out] at CR
                obtain ⟨z1', z2', z3', z4', z5'⟩ := HBX.out.2.below hb5
                simp only [] at z1' z2' z3' z4' z5'
                clear CA hb5 HQ
                go_wp2_with fail
                refine CR.out.mono ?_; rintro e w6 ⟨rfl, hb6⟩
                have HS6 := Lib.hid (HS5.out.below hb6)
                have i2 := I2.out
                clear hb6 CR
                go_wp2_with fail
                go_roundg (n - (k + 1))
                case rel => exact ⟨k + 1, by omega, rfl, by simp, Lib.hid ⟨_, _, _, HS6.out⟩⟩
                case measure => first | omega | (simp; omega)
      · have hkn : ¬ (k : Int) < n := by omega
        clear hlt hk hg
        have C := find_any (c := cg) x HE.out.2 (by omega) HA.out.2.2.2.1 hrs.sp.2
        obtain ⟨fo, efo⟩ : ∃ fo, fnd G x = fo := ⟨_, rfl⟩
        rw [efo] at C
        have HFO := Lib.hid efo
        have HB0 := Lib.hid hrs.b
        clear hrs efo h16
        cases fo
        · simp only [fndV] at C
          have C := Lib.hid C
          go_wp2_with fail
          refine C.out.mono ?_; rintro e w2 ⟨rfl, hb2⟩
          have b3 := below_alloc1 w2 (blkM Mp.zero)
          have HB3 := Lib.hid (And.intro (below_up hb2 b3) (Five.row (t := 26) (heap_alloc_new w2 (blkM Mp.zero))))
          clear hb2 b3 C
          go_wp2_with fail
          go_loopg [151] lw (fun gh i wx => ∃ j : Nat, j ≤ lw ∧ gh = lw - j ∧ i = .int .i64 j ∧ Hid (∀ y ∈ W.take j, ¬ (y.a ≤ x ∧ x < y.a + y.n)) ∧ Hid (Below wr.heap.size wr wx ∧ Five wx w2.heap.size 0 Mp.zero))
          case atStart => exact ⟨0, by omega, by omega, rfl, Lib.hid (by simp), HB3⟩
          case round =>
            obtain ⟨j, hj, hgj, rfl, hno, hJ⟩ := hrel
            obtain ⟨z0, z1, z2, z3, z4⟩ := hJ.out.2
            simp only [Mp.zero] at z0 z1 z2 z3 z4
            have qG := guard_map
            by_cases hlj : j < lw
            · obtain ⟨y, hy⟩ : ∃ y, W[j]? = some y := ⟨_, List.getElem?_eq_getElem (by rw [HE.out.1]; exact hlj)⟩
              obtain ⟨B3, o3, rfl, _, c0, c1, c2, c3, c4⟩ := (HA.out.2.2.2.2.2.2.below hJ.out.1).five hy
              have hyo := HA.out.1.wok (List.mem_of_getElem? hy)
              have bx := below_alloc1 wr (blkM y)
              have BX := Lib.hid (And.intro (below_up hJ.out.1 bx) (hJ.out.2.below bx))
              obtain ⟨x0, x1, x2, x3, x4⟩ := BX.out.2
              simp only [Mp.zero] at x0 x1 x2 x3 x4
              have hlw := H16.out
              have l3 : (j : Int) < lw := by omega
              have i3 : IntKind.i64.wrap ((j : Int) + 1) = (j : Int) + 1 := by rw [IntKind.wrap_i64]; omega
              obtain ⟨o1, o2, o3', o4, _⟩ := hyo
              obtain ⟨r, er⟩ : ∃ r, y.a + y.n = r := ⟨_, rfl⟩
              have i4 : IntKind.i64.wrap (y.a + y.n) = r := by rw [IntKind.wrap_i64]; omega
              have HY := Lib.hid hy
              have HNX : Hid (¬ (y.a ≤ x ∧ x < r) → ∀ z ∈ W.take (j + 1), ¬ (z.a ≤ x ∧ x < z.a + z.n)) := Lib.hid (fun h z hz => by
                rw [show W.take (j + 1) = W.take j ++ [y] by rw [List.take_add_one, HY.out]; rfl] at hz
                rcases List.mem_append.1 hz with hz | hz
                · exact hno.out z hz
                · rw [List.mem_singleton.1 hz, er]; exact h)
              have HR2 := Lib.hid er
              clear o1 o2 o3' o4 er bx hlw hy
              by_cases h1 : y.a ≤ x
              · have h1' : x ≥ y.a := h1
                by_cases h2 : x < r
                · exfalso
                  have hm := HA.out.1.pm.mem_iff.2 (List.mem_of_getElem? HY.out)
                  have := (fnd_iff HA.out.1.sp (p := x) (m := y)).2 ⟨hm, h1, by rw [HR2.out]; exact h2⟩
                  rw [HFO.out] at this
                  cases this
                · have HN := Lib.hid (HNX.out (fun h => h2 h.2))
                  obtain ⟨ya, ys, yf, yn, yw⟩ := y
                  simp only [] at c0 c1 c2 c3 c4 h1 h1' i4
                  clear HNX HY HR2 z0 z1 z2 z3 z4
                  go_wp2_with fail
                  go_roundg (lw - (j + 1))
                  case rel => exact ⟨j + 1, by omega, rfl, by simp, HN, BX⟩
                  case measure => first | omega | (simp; omega)
              · have h1' : ¬ x ≥ y.a := h1
                have HN := Lib.hid (HNX.out (fun h => h1 h.1))
                obtain ⟨ya, ys, yf, yn, yw⟩ := y
                simp only [] at c0 c1 c2 c3 c4 h1 h1'
                clear HNX HY HR2 i4 z0 z1 z2 z3 z4
                go_wp2_with fail
                go_roundg (lw - (j + 1))
                case rel => exact ⟨j + 1, by omega, rfl, by simp, HN, BX⟩
                case measure => first | omega | (simp; omega)
            · have hjn : ¬ (j : Int) < lw := by omega
              have hwt : W.take j = W := List.take_of_length_le (by have := HE.out.1; omega)
              have hno' := hno.out
              rw [hwt] at hno'
              have qE := fun W => equal_map Mp.zero Mp.zero W
              simp only [eqM_self] at qE
              simp only [Mp.zero] at qE
              clear hlj hwt hno' hno
              go_wp2_with fail
              go_ret
              exact ⟨rfl, HB0.out.trans (hJ.out.1.mono HB0.out.size)⟩
        · rename_i p
          obtain ⟨pa, ps, pf, pn, pw⟩ := p
          simp only [fndV] at C
          have C := Lib.hid C
          go_wp2_with fail
          refine C.out.mono ?_; rintro e w2 ⟨rfl, hb2⟩
          have b3 := below_alloc1 w2 (blkM ⟨pa, ps, pf, pn, pw⟩)
          have HB3 := Lib.hid (And.intro (below_up hb2 b3) (Five.row (t := 26) (heap_alloc_new w2 (blkM ⟨pa, ps, pf, pn, pw⟩))))
          clear hb2 b3 C
          go_wp2_with fail
          go_loopg [151] lw (fun gh i wx => ∃ j : Nat, j ≤ lw ∧ gh = lw - j ∧ i = .int .i64 j ∧ Hid (∀ y ∈ W.take j, ¬ (y.a ≤ x ∧ x < y.a + y.n)) ∧ Hid (Below wr.heap.size wr wx ∧ Five wx w2.heap.size 0 ⟨pa, ps, pf, pn, pw⟩))
          case atStart => exact ⟨0, by omega, by omega, rfl, Lib.hid (by simp), HB3⟩
          case round =>
            obtain ⟨j, hj, hgj, rfl, hno, hJ⟩ := hrel
            obtain ⟨z0, z1, z2, z3, z4⟩ := hJ.out.2
            simp only [Mp.zero] at z0 z1 z2 z3 z4
            have qG := guard_map
            by_cases hlj : j < lw
            · obtain ⟨y, hy⟩ : ∃ y, W[j]? = some y := ⟨_, List.getElem?_eq_getElem (by rw [HE.out.1]; exact hlj)⟩
              obtain ⟨B3, o3, rfl, _, c0, c1, c2, c3, c4⟩ := (HA.out.2.2.2.2.2.2.below hJ.out.1).five hy
              have hyo := HA.out.1.wok (List.mem_of_getElem? hy)
              have bx := below_alloc1 wr (blkM y)
              have BX := Lib.hid (And.intro (below_up hJ.out.1 bx) (hJ.out.2.below bx))
              obtain ⟨x0, x1, x2, x3, x4⟩ := BX.out.2
              simp only [Mp.zero] at x0 x1 x2 x3 x4
              have hlw := H16.out
              have l3 : (j : Int) < lw := by omega
              have i3 : IntKind.i64.wrap ((j : Int) + 1) = (j : Int) + 1 := by rw [IntKind.wrap_i64]; omega
              obtain ⟨o1, o2, o3', o4, _⟩ := hyo
              obtain ⟨r, er⟩ : ∃ r, y.a + y.n = r := ⟨_, rfl⟩
              have i4 : IntKind.i64.wrap (y.a + y.n) = r := by rw [IntKind.wrap_i64]; omega
              have HY := Lib.hid hy
              have HNX : Hid (¬ (y.a ≤ x ∧ x < r) → ∀ z ∈ W.take (j + 1), ¬ (z.a ≤ x ∧ x < z.a + z.n)) := Lib.hid (fun h z hz => by
                rw [show W.take (j + 1) = W.take j ++ [y] by rw [List.take_add_one, HY.out]; rfl] at hz
                rcases List.mem_append.1 hz with hz | hz
                · exact hno.out z hz
                · rw [List.mem_singleton.1 hz, er]; exact h)
              have HR2 := Lib.hid er
              clear o1 o2 o3' o4 er bx hlw hy
              by_cases h1 : y.a ≤ x
              · have h1' : x ≥ y.a := h1
                by_cases h2 : x < r
                · have hyp : y = ⟨pa, ps, pf, pn, pw⟩ := by
                    have hm := HA.out.1.pm.mem_iff.2 (List.mem_of_getElem? HY.out)
                    have := (fnd_iff HA.out.1.sp (p := x) (m := y)).2 ⟨hm, h1, by rw [HR2.out]; exact h2⟩
                    rw [HFO.out] at this
                    injection this with this
                    exact this.symm
                  subst hyp
                  have qE := fun W => equal_map ⟨pa, ps, pf, pn, pw⟩ ⟨pa, ps, pf, pn, pw⟩ W
                  simp only [eqM_self] at qE
                  simp only [] at c0 c1 c2 c3 c4 h1 h1' i4
                  clear HNX HY HR2 z0 z1 z2 z3 z4
                  go_wp2_with fail
                  go_ret
                  exact ⟨rfl, HB0.out.trans (BX.out.1.mono HB0.out.size)⟩
                · have HN := Lib.hid (HNX.out (fun h => h2 h.2))
                  obtain ⟨ya, ys, yf, yn, yw⟩ := y
                  simp only [] at c0 c1 c2 c3 c4 h1 h1' i4
                  clear HNX HY HR2 z0 z1 z2 z3 z4
                  go_wp2_with fail
                  go_roundg (lw - (j + 1))
                  case rel => exact ⟨j + 1, by omega, rfl, by simp, HN, BX⟩
                  case measure => first | omega | (simp; omega)
              · have h1' : ¬ x ≥ y.a := h1
                have HN := Lib.hid (HNX.out (fun h => h1 h.1))
                obtain ⟨ya, ys, yf, yn, yw⟩ := y
                simp only [] at c0 c1 c2 c3 c4 h1 h1'
                clear HNX HY HR2 i4 z0 z1 z2 z3 z4
                go_wp2_with fail
                go_roundg (lw - (j + 1))
                case rel => exact ⟨j + 1, by omega, rfl, by simp, HN, BX⟩
                case measure => first | omega | (simp; omega)
            · have hjn : ¬ (j : Int) < lw := by omega
              have hwt : W.take j = W := List.take_of_length_le (by have := HE.out.1; omega)
              have hno' := hno.out
              rw [hwt] at hno'
              exfalso
              have := (fnd_iff HA.out.1.sp).1 HFO.out
              exact hno' _ (HA.out.1.pm.mem_iff.1 this.1) this.2
end Go.Proofs.Ytbjegfkjibfadaa
