/- MapsBack. -/
import Derived.Test.YtbjegfkjibfadaaMg
set_option linter.unusedVariables false
set_option linter.unusedSimpArgs false
namespace Go.Proofs.Ytbjegfkjibfadaa
open Go.RowKit
set_option linter.unusedVariables false
set_option linter.unusedSimpArgs false
section
variable {own own' : Nat → Prop} {w w' : World} {v : Value} {us : List Mp} {n : Nat}
theorem RV.below (h : RV own 26 5 encM w v us) (hb : Below w.heap.size w w') : RV own 26 5 encM w' v us := h.keep fun b cur ho hc => ⟨ho, hb.block b (Array.getElem?_eq_some_iff.1 hc).1⟩
theorem RV.mono (h : RV own 26 5 encM w v us) (ho : ∀ b, own b → own' b) : RV own' 26 5 encM w v us := h.keep fun b cur hb _ => ⟨ho b hb, rfl⟩
theorem RV.open_ (h : RV own 26 5 encM w v us) (hl : us.length = n) : ∃ A c, v = .slice A n c ∧ n ≤ c ∧ c ≤ maxLen ∧ LV 5 encM w A us := by
  obtain ⟨A, c, h1, h2, h3, h4⟩ := h.form
  rw [hl] at h1 h2
  exact ⟨A, c, h1, h2, h3, h4⟩
end
theorem fnd_iff {l : List Mp} (h : Sp l) {p : Int} {m : Mp} : fnd l p = some m ↔ m ∈ l ∧ m.a ≤ p ∧ p < m.a + m.n := by
  unfold fnd
  constructor
  · intro hf
    have h1 := List.find?_some hf
    have h2 := List.mem_of_find?_eq_some hf
    simp only [Bool.and_eq_true, decide_eq_true_eq] at h1
    exact ⟨h2, h1⟩
  · rintro ⟨h1, h2, h3⟩
    cases hf : l.find? (fun m => decide (m.a ≤ p) && decide (p < m.a + m.n)) with
    | none =>
      have := List.find?_eq_none.1 hf m h1
      simp [h2, h3] at this
    | some y =>
      have k1 := List.find?_some hf
      have k2 := List.mem_of_find?_eq_some hf
      simp only [Bool.and_eq_true, decide_eq_true_eq] at k1
      obtain ⟨i, hi⟩ := List.mem_iff_getElem?.1 h1
      obtain ⟨j, hj⟩ := List.mem_iff_getElem?.1 k2
      rcases Nat.lt_trichotomy i j with hl | rfl | hl
      · have := h.at_lt hi hj hl; omega
      · rw [hi] at hj; exact hj.symm
      · have := h.at_lt hj hi hl; omega
/-- What was added is taken away again. -/
theorem back_eq {l l1 l2 us : List Mp} {m x : Mp} (hs : Sp l) (hp : l.Perm (m :: us)) (hu : Sp us) (he : l = l1 ++ x :: l2) (hx : x.a = m.a) : l1 ++ l2 = us := by
  subst he
  obtain rfl : x = m := hs.inj (by simp) (hp.mem_iff.2 (by simp)) hx
  exact hs.less.1.eq hu (((List.perm_middle (a := x) (l₁ := l1) (l₂ := l2)).symm.trans hp).cons_inv)
set_option maxHeartbeats 4000000 in
set_option maxRecDepth 100000 in
theorem back_all (A : Option Addr) (n c : Nat) (us : List Mp) (m : Mp) (w : World) (hl : us.length = n) (hc : n ≤ c) (hcm : c ≤ maxLen) (hr : LV 5 encM w A us) :
    Calls Try.prog 7 #[.slice A n c, .agg #[.int .i64 m.a, .int .u64 m.s, .int .i64 m.f, .int .i64 m.n, .bool m.w]] w fun e w' => e = .returned (.bool true) ∧ Below w.heap.size w w' := by
  have B0 := Lib.hid (And.intro (below_alloc1 w (blkM m)) (heap_alloc_new w (blkM m)))
  have CF := Lib.hid (fit_any (w.alloc (blkM m)))
  have HL := Lib.hid hl
  have HR := Lib.hid hr
  have HC := Lib.hid (And.intro hc hcm)
  obtain ⟨m0, em0⟩ : ∃ m0, m0 = m := ⟨_, rfl⟩
  have HM := Lib.hid em0
  obtain ⟨a, s, f, nn, wt⟩ := m
  clear hl hr hc hcm em0
  go_enter Try.func7, Try.ntmps7
  go_wp2_with fail
  refine CF.out.mono ?_; rintro e w1 ⟨rfl, hb1⟩
  have HB1 := Lib.hid (And.intro (below_up B0.out.1 hb1) ((Five.row (t := 26) B0.out.2).below hb1))
  clear CF hb1 B0
  by_cases hbig : n > 40
  · have g1 : (n : Int) > 40 := by omega
    have g2 : (40 : Int) < n := g1
    clear hbig
    go_wp2_with fail
    go_ret
    exact ⟨rfl, HB1.out.1⟩
  · have g1 : ¬ (n : Int) > 40 := by omega
    have g2 : ¬ (40 : Int) < n := g1
    have C := Lib.hid (right_any (c := c) HL.out (by omega) (HR.out.below HB1.out.1))
    obtain ⟨q, eq⟩ : ∃ q, rightB us = q := ⟨_, rfl⟩
    rw [eq] at C
    have HQ := Lib.hid eq
    clear hbig eq
    go_wp2_with fail
    refine C.out.mono ?_; rintro e w2 ⟨rfl, hb2⟩
    have HB2 := Lib.hid (And.intro (below_up HB1.out.1 hb2) (HB1.out.2.below hb2))
    clear hb2 C HB1
    cases q
    · go_wp2_with fail
      go_ret
      exact ⟨rfl, HB2.out.1⟩
    · have HS := Lib.hid (rightB_iff.1 HQ.out)
      rw [HL.out] at HS
      clear HQ
      obtain ⟨v1, w3, hrun, hv1, ⟨S, ht, hS⟩, _⟩ := append_m (w := w2) (own := fun _ => False) 22 (RV.nil _ _) (ys := us) (by have := HL.out; have := HS.out.1; simp; omega) A n c HL.out (by have := HL.out; have := HC.out; omega) (HR.out.below HB2.out.1)
      have hbt : Below w2.heap.size w2 w3 := ht.below (Nat.le_refl _) fun b hb => absurd (hS b hb).1 id
      rw [List.nil_append] at hv1
      have HB3 := Lib.hid (And.intro (below_up HB2.out.1 hbt) (HB2.out.2.below hbt))
      have HO := Lib.hid hv1
      have HRUN := Lib.hid hrun
      have HA := Lib.hid (add_any (c := c) ⟨a, s, f, nn, wt⟩ HL.out HS.out.1 HC.out.1 HC.out.2 (HR.out.below HB3.out.1) HS.out.2)
      obtain ⟨z0, z1, z2, z3, z4⟩ := HB3.out.2
      simp only [] at z0 z1 z2 z3 z4
      clear hrun hv1 ht hS hbt HB2
      go_wp2_with (at_builtin; refine wpList_append_by rfl (.const (.slice none 0 0)) (.tmp 23) _ _ rfl _ _ _ rfl rfl w3 HRUN.out ?_)
      go_wp2_with fail
      refine HA.out.mono ?_; rintro e w4 ⟨h4, hb4⟩
      have HB4 := Lib.hid (And.intro (below_up HB3.out.1 hb4) (HB3.out.2.below hb4))
      have HO4 := Lib.hid (HO.out.below hb4)
      clear HA HO HRUN hb4 HB3 z0 z1 z2 z3 z4
      rcases h4 with ⟨_, rfl⟩ | ⟨_, _, _, rfl⟩ | ⟨hmo, _, hl16, va, la, rfl, hva, hsa, hpa⟩
      · go_wp2_with fail
        go_ret
        exact ⟨rfl, HB4.out.1⟩
      · go_wp2_with fail
        go_ret
        exact ⟨rfl, HB4.out.1⟩
      · obtain ⟨na, ena⟩ : ∃ na, la.length = na := ⟨_, rfl⟩
        have hna : na = n + 1 := by rw [← ena, hpa.length_eq, List.length_cons, HL.out]
        obtain ⟨Aa, ca, rfl, hca, hcma, hra⟩ := hva.open_ ena
        have CR := Lib.hid (remove_any (c := ca) a ena (by have := HS.out.1; omega) hca hcma hra)
        have HVA := Lib.hid (And.intro hva (And.intro hsa (And.intro hpa (And.intro ena (And.intro hna (And.intro hca (And.intro hcma (And.intro hra (Mp.ok_iff.1 hmo)))))))))
        obtain ⟨z0, z1, z2, z3, z4⟩ := HB4.out.2
        simp only [] at z0 z1 z2 z3 z4
        clear hva hsa hpa ena hna hca hcma hra hmo hl16
        go_wp2_with fail
        refine CR.out.mono ?_; rintro e w5 ⟨h5, hb5⟩
        have HB5 := Lib.hid (And.intro (below_up HB4.out.1 hb5) (HB4.out.2.below hb5))
        have HO5 := Lib.hid (HO4.out.below hb5)
        have HA5 := Lib.hid (HVA.out.2.2.2.2.2.2.2.1.below hb5)
        obtain ⟨l1, x, l2, vb, he, hx, rfl, hvb⟩ : ∃ l1 x l2 v, la = l1 ++ x :: l2 ∧ x.a = a ∧ e = .returned (.tuple #[v, .int .i64 0]) ∧ RV (fun b => w4.heap.size ≤ b) 26 5 encM w5 v (l1 ++ l2) := by
          rcases h5 with ⟨h5, _⟩ | h5
          · exact absurd rfl (h5 ⟨a, s, f, nn, wt⟩ (HVA.out.2.2.1.mem_iff.2 (by simp)))
          · exact h5
        rw [back_eq HVA.out.2.1 HVA.out.2.2.1 HS.out.2 he hx] at hvb
        obtain ⟨Ab, cb, rfl, hcb, hcmb, hrb⟩ := hvb.open_ HL.out
        obtain ⟨Ao, co, rfl, hco, hcmo, hro⟩ := HO5.out.open_ HL.out
        have H15 := Lib.hid (And.intro HB5.out (And.intro hrb hro))
        clear hvb hcb hcmb hrb hco hcmo hro he hx h5 hb5 HB4 HO4 HO5 CR z0 z1 z2 z3 z4 HB5
        go_wp2_with fail
        go_loopg [61] n (fun gh i wr => ∃ k : Nat, k ≤ n ∧ gh = n - k ∧ i = .int .i64 k ∧ Hid (Below w5.heap.size w5 wr))
        case atStart => exact ⟨0, by omega, by omega, rfl, Lib.hid (Below.refl _ _)⟩
        case round =>
          obtain ⟨k, hk, hg, rfl, hI⟩ := hrel
          by_cases hlt : k < n
          · obtain ⟨⟨hb5, _⟩, hrb, hro⟩ := H15.out
            obtain ⟨p, hy⟩ : ∃ p, us[k]? = some p := ⟨_, List.getElem?_eq_getElem (by rw [HL.out]; exact hlt)⟩
            obtain ⟨B1, o1, rfl, _, c0, c1, c2, c3, c4⟩ := (hrb.below hI.out).five hy
            obtain ⟨B2, o2, rfl, _, d0, d1, d2, d3, d4⟩ := (hro.below hI.out).five hy
            obtain ⟨B3, o3, rfl, _, e0, e1, e2, e3, e4⟩ := (HR.out.below (below_up hb5 hI.out)).five hy
            have qG := guard_map
            have qE := fun W => equal_map p p W
            simp only [eqM_self] at qE
            obtain ⟨pa, ps, pf, pn, pw⟩ := p
            simp only [] at c0 c1 c2 c3 c4 d0 d1 d2 d3 d4 e0 e1 e2 e3 e4 qE
            have hn := HS.out.1
            have l1 : (k : Int) < n := by omega
            have i1 : IntKind.i64.wrap ((k : Int) + 1) = (k : Int) + 1 := by rw [IntKind.wrap_i64]; omega
            clear hb5 hrb hro hy hn
            go_upto_region 15 with fail
            go_quiet (fail)
            rename_i nq
            have HI := Lib.hid (hI.out.trans ((below_dN wr nq).mono hI.out.size))
            clear c0 c1 c2 c3 c4 d0 d1 d2 d3 d4 e0 e1 e2 e3 e4
            go_wp2_with fail
            go_roundg (n - (k + 1))
            case rel => exact ⟨k + 1, by omega, rfl, by simp, HI⟩
            case measure => first | omega | (simp; omega)
          · obtain ⟨⟨hb5, hf5⟩, hrb, hro⟩ := H15.out
            obtain ⟨hva, hsa, hpa, ena, hna, hca, hcma, hra, hmo⟩ := HVA.out
            obtain ⟨o1, o2, o3, o4, _⟩ := hmo
            simp only [] at o1 o2 o3 o4
            obtain ⟨r, er⟩ : ∃ r, a + nn = r := ⟨_, rfl⟩
            obtain ⟨r1, er1⟩ : ∃ r1, r - 1 = r1 := ⟨_, rfl⟩
            have i1 : IntKind.i64.wrap (a + nn) = r := by rw [IntKind.wrap_i64]; omega
            have i2 : IntKind.i64.wrap (r - 1) = r1 := by rw [IntKind.wrap_i64]; omega
            have CF := find_any (c := ca) r1 ena (by have := HS.out.1; omega) (HA5.out.below hI.out) hsa.2
            rw [(fnd_iff hsa (m := ⟨a, s, f, nn, wt⟩)).2 ⟨hpa.mem_iff.2 (by simp), by show a ≤ r1; omega, by show r1 < a + nn; omega⟩] at CF
            simp only [fndV] at CF
            have CF := Lib.hid CF
            have HB6 := Lib.hid (And.intro (below_up hb5 hI.out) (hf5.below hI.out))
            obtain ⟨z0, z1, z2, z3, z4⟩ := HB6.out.2
            simp only [] at z0 z1 z2 z3 z4
            have hkn : k = n := by omega
            have l1 : ¬ (k : Int) < n := by omega
            clear hb5 hf5 hrb hro hva hsa hpa ena hna hca hcma hra o1 o2 o3 o4 er er1 hlt hkn hk hg
            go_wp2_with fail
            refine CF.out.mono ?_; rintro e w6 ⟨rfl, hb6⟩
            have HB7 := Lib.hid (And.intro (below_up HB6.out.1 hb6) (HB6.out.2.below hb6))
            have b7 := below_alloc1 w6 (blkM ⟨a, s, f, nn, wt⟩)
            have HB8 := Lib.hid (below_up HB7.out.1 b7)
            obtain ⟨y0, y1, y2, y3, y4⟩ := HB7.out.2.below b7
            obtain ⟨x0, x1, x2, x3, x4⟩ := Five.row (t := 26) (heap_alloc_new w6 (blkM ⟨a, s, f, nn, wt⟩))
            simp only [] at x0 x1 x2 x3 x4 y0 y1 y2 y3 y4
            have qG := guard_map
            have qE := fun W => equal_map ⟨a, s, f, nn, wt⟩ ⟨a, s, f, nn, wt⟩ W
            simp only [eqM_self] at qE
            clear hb6 b7 CF z0 z1 z2 z3 z4 HB6
            go_wp2_with fail
            go_ret
            exact ⟨rfl, HB8.out⟩
end Go.Proofs.Ytbjegfkjibfadaa
