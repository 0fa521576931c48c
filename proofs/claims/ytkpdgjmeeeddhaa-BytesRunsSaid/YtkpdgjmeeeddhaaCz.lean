/- BytesRuns: one call: Copy of itself. -/
import Derived.Test.YtkpdgjmeeeddhaaCx
import Derived.Test.YtkpdgjmeeeddhaaVq
set_option linter.unusedVariables false
set_option linter.unusedSimpArgs false
namespace Go.Proofs.Ytkpdgjmeeeddhaa
open Go.RowKit
set_option linter.unusedVariables false
set_option linter.unusedSimpArgs false
variable {W w : World} {R B M : Nat} {os : List Nat} {ds : List (List Nat)} {fs : Nat → List Nat} {x : Nat → Value} {gs : Nat → Nat} {mc : Nat → List Nat}
set_option maxHeartbeats 4000000 in
set_option maxRecDepth 100000 in
theorem play_6 (y : Cl) (hy : y.ok W) (h300 : y.l ≤ 300) (hQ : QS W R B M os ds fs x gs mc w) (he : ∀ i, i < 2 → mc i = Sg.cont ds (fs i)) (t u : Int) (e1 : y.k.tmod 7 = t) (e2 : RowKit.wrap64 (t + 7) = u) (e3 : u.tmod 7 = 6) (ht : t = 6) :
    Calls Try.prog 10 #[.pointer (some ⟨R, 0, none⟩), .slice (some ⟨B, 0, none⟩) 2 2, .slice (some ⟨M, 0, none⟩) 2 2, .agg y.cs.toArray] w fun e w' => e = .returned (.bool true) ∧ PI W R B M w' := by
  obtain ⟨i, eh, hi⟩ := and1' y.h
  have hq1 := hQ.below (below_alloc1 w (Obj.cells y.cs.toArray 32))
  have hcb : CB (w.alloc (Obj.cells y.cs.toArray 32)) w.heap.size y := heap_alloc_new _ _
  obtain ⟨hl64, hl16⟩ := hq1.len hi
  rw [← he i hi] at hl64
  obtain ⟨Ax, ex, hbr⟩ := (hq1.mr i hi).form
  obtain ⟨L, eL⟩ : ∃ L, (mc i).length = L := ⟨_, rfl⟩
  rw [eL] at ex hl64
  have hL : L ≤ 1024 := by omega
  obtain ⟨k, h, o, n, a, z, Ad, l, c⟩ := y
  obtain ⟨hk, hw, ho, hn, ha, hz, dat, hdl, hdc, hdr, hdb⟩ := hy
  simp only [] at h300
  have HL3 := Lib.hid h300
  clear h300
  simp only [Cl.cs] at hk hw ho hn ha hz hdl hdc hdr e1 eh hq1 hcb ⊢
  have hdr1 := hdr.below hq1.lw.1
  have hi2 : (i : Int) < 2 := by omega
  have HY := Lib.hid (And.intro ho (And.intro hn (And.intro ha (And.intro hz (And.intro hdl (And.intro hdc (And.intro hdr (And.intro hdb (And.intro hi (And.intro he (And.intro eL (And.intro hl64 hL))))))))))))
  have HQ := Lib.hid (And.intro hq1 hcb)
  have HEX := Lib.hid ex
  have HE := Lib.hid (And.intro eh (And.intro e1 (And.intro e2 e3)))
  clear eh e1 e2 e3
  clear hk hw ho hn ha hz hdl hdc hdr hdb hi he eL hl64 hL hq1 hcb hQ ex hbr hl16 hdr1
  go_enter Try.func10, Try.ntmps10
  go_upto_region 1 with fail
  obtain ⟨W1, eW1⟩ : ∃ W1, w.alloc (Obj.cells #[.int .i64 k, .int .i64 h, .int .i64 o, .int .i64 n, .int .i64 a, .int .u64 (z : Int), .slice Ad l c] 32) = W1 := ⟨_, rfl⟩
  obtain ⟨C, eC⟩ : ∃ C, w.heap.size = C := ⟨_, rfl⟩
  have HQ1 : Hid (QS W R B M os ds fs x gs mc W1 ∧ CB W1 C ⟨k, h, o, n, a, z, Ad, l, c⟩) := Lib.hid (by rw [← eW1, ← eC]; exact HQ.out)
  rw [eW1, eC]
  clear HQ eW1 eC
  obtain ⟨q0, q1, q2, q3, q4, q5, q6⟩ := HQ1.out.2.cells
  have cM := (HQ1.out.1.cellM HY.out.2.2.2.2.2.2.2.2.1).1
  rw [HEX.out] at cM
  obtain ⟨v, hsv0⟩ := HQ1.out.1.sv i HY.out.2.2.2.2.2.2.2.2.1
  have HSV := Lib.hid hsv0
  clear hsv0
  obtain ⟨ho, hn, ha, hz, hdl, hdc, hdr, hdb, hi, he, eL, hl64, hL⟩ := HY.out
  have hki := hi
  have ht1' : (t == 6) = true := by rw [ht]; rfl
  have eLk := eL
  have hlk64 := hl64
  have hLk := hL
  have HEXK := HEX
  have HSK := HSV
  by_cases hin : 0 ≤ n ∧ (0 ≤ o ∧ o + n ≤ (64 * (fs i).length : Nat)) ∧ (0 ≤ a ∧ a + n ≤ (64 * (fs i).length : Nat))
  · obtain ⟨off, rfl⟩ := Int.eq_ofNat_of_zero_le hin.2.1.1
    obtain ⟨m, rfl⟩ := Int.eq_ofNat_of_zero_le hin.1
    obtain ⟨at_, rfl⟩ := Int.eq_ofNat_of_zero_le hin.2.2.1
    have hom : off + m ≤ L := by omega
    have ham : at_ + m ≤ L := by omega
    have CP := Lib.hid (fun zz => copy_st (off := off) (at_ := at_) (n := m) ((HQ1.out.1.drewN zz).drew).lw (HSV.out.below (w' := (W1.drewN zz).drew) ⟨rfl, rfl, rfl, Nat.le_refl _, fun _ _ => rfl⟩) (HSK.out.below (w' := (W1.drewN zz).drew) ⟨rfl, rfl, rfl, Nat.le_refl _, fun _ _ => rfl⟩) (HQ1.out.1.ow i hi) (HQ1.out.1.ow i hki).live (by omega) (by omega))
    have hw1 : wi L off m = true := wi_iff.2 ⟨by omega, by omega, by omega⟩
    have hw2 : wi L at_ m = true := wi_iff.2 ⟨by omega, by omega, by omega⟩
    have HCW := Lib.hid (fun z => within_c L off m (W1.drewN z) (by omega) ho hn)
    rw [hw1] at HCW
    have HCK := Lib.hid (fun z => within_c L at_ m (W1.drewN z) (by omega) ha hn)
    rw [hw2] at HCK
    have HB := Lib.hid (And.intro hi (And.intro he (And.intro eL (And.intro hom (And.intro hki (And.intro eLk (And.intro ham (And.intro hL hLk))))))))
    have HC1 := Lib.hid HQ1.out.2
    clear ho hn ha hz hdl hdc hdr hdb hi he eL hl64 hL hin hw1 hw2 HY hki eLk hlk64 hLk hom ham
    obtain ⟨eh, e1, e2, e3⟩ := HE.out
    go_upto_region 9 with fail
    clear eh e1 e2 e3
    go_quiet ((go_at_call 22; first | with_reducible exact Calls.quiet_of_same (HCK.out _) | with_reducible exact Calls.quiet_of_same (HCW.out _)))
    go_upto_region 10 with fail
    have hHCf := HC1.out
    refine region_AU (Z := fun j => j == 0 || j == 1 || j == 2 || j == 4 || j == 5 || j == 7 || j == 9 || j == 12 || j == 6) (S := fun Wz => CB Wz C ⟨k, h, off, m, at_, z, Ad, l, c⟩) (by kernel_rfl) (hHCf.below (⟨rfl, rfl, rfl, Nat.le_refl _, fun _ _ => rfl⟩)) (fun hHeld => ?_)
    clear hHCf q0 q1 q2 q3 q4 q5 q6 cM
    refine AUP_take (i := 0) (oi := _) (v := ?vwf0) rfl rfl (by kernel_rfl) (by kernel_rfl) (by kernel_rfl) (fun _ _ _ h => h) (Or.inl ⟨by rfl, ?hzf0⟩) ?rstf0
    case hzf0 => (intro wS hSw; go_simp; try with_reducible rfl)
    simp only [Act.put, List.getElem_toArray, List.getElem_cons_zero, List.getElem_cons_succ, List.setIfInBounds_toArray, List.set_cons_zero, List.set_cons_succ]
    refine AUP_take (i := 1) (oi := _) (v := ?vwf1) rfl rfl (by kernel_rfl) (by kernel_rfl) (by kernel_rfl) (fun _ _ _ h => h) (Or.inl ⟨by rfl, ?hzf1⟩) ?rstf1
    case hzf1 => (intro wS hSw; go_simp; try with_reducible rfl)
    simp only [Act.put, List.getElem_toArray, List.getElem_cons_zero, List.getElem_cons_succ, List.setIfInBounds_toArray, List.set_cons_zero, List.set_cons_succ]
    refine AUP_take (i := 2) (oi := _) (v := ?vwf2) rfl rfl (by kernel_rfl) (by kernel_rfl) (by kernel_rfl) (fun _ _ _ h => h) (Or.inl ⟨by rfl, ?hzf2⟩) ?rstf2
    case hzf2 => (intro wS hSw; go_simp; try with_reducible rfl)
    simp only [Act.put, List.getElem_toArray, List.getElem_cons_zero, List.getElem_cons_succ, List.setIfInBounds_toArray, List.set_cons_zero, List.set_cons_succ]
    refine AUP_take (i := 4) (oi := _) (v := ?vwf4) rfl rfl (by kernel_rfl) (by kernel_rfl) (by kernel_rfl) (fun _ _ _ h => h) (Or.inl ⟨by rfl, ?hzf4⟩) ?rstf4
    case hzf4 => (intro wS hSw; go_simp; try with_reducible rfl)
    simp only [Act.put, List.getElem_toArray, List.getElem_cons_zero, List.getElem_cons_succ, List.setIfInBounds_toArray, List.set_cons_zero, List.set_cons_succ]
    refine AUP_take (i := 5) (oi := _) (v := ?vwf5) rfl rfl (by kernel_rfl) (by kernel_rfl) (by kernel_rfl) (fun _ _ _ h => h) (Or.inl ⟨by rfl, ?hzf5⟩) ?rstf5
    case hzf5 => (intro wS hSw; go_simp; try with_reducible rfl)
    simp only [Act.put, List.getElem_toArray, List.getElem_cons_zero, List.getElem_cons_succ, List.setIfInBounds_toArray, List.set_cons_zero, List.set_cons_succ]
    refine AUP_take (i := 7) (oi := _) (v := ?vwf7) rfl rfl (by kernel_rfl) (by kernel_rfl) (by kernel_rfl) (fun _ _ _ h => h) (Or.inl ⟨by rfl, ?hzf7⟩) ?rstf7
    case hzf7 => (intro wS hSw; go_simp; try with_reducible rfl)
    simp only [Act.put, List.getElem_toArray, List.getElem_cons_zero, List.getElem_cons_succ, List.setIfInBounds_toArray, List.set_cons_zero, List.set_cons_succ]
    refine AUP_take (i := 9) (oi := _) (v := ?vwf9) rfl rfl (by kernel_rfl) (by kernel_rfl) (by kernel_rfl) (fun _ _ _ h => h) (Or.inl ⟨by rfl, ?hzf9⟩) ?rstf9
    case hzf9 => (intro wS hSw; go_simp; try with_reducible rfl)
    simp only [Act.put, List.getElem_toArray, List.getElem_cons_zero, List.getElem_cons_succ, List.setIfInBounds_toArray, List.set_cons_zero, List.set_cons_succ]
    refine AUP_take (i := 12) (oi := _) (v := ?vwf12) rfl rfl (by kernel_rfl) (by kernel_rfl) (by kernel_rfl) (fun _ _ _ h => h) (Or.inl ⟨by rfl, ?hzf12⟩) ?rstf12
    case hzf12 => (intro wS hSw; go_simp; try with_reducible rfl)
    simp only [Act.put, List.getElem_toArray, List.getElem_cons_zero, List.getElem_cons_succ, List.setIfInBounds_toArray, List.set_cons_zero, List.set_cons_succ]
    refine AUP_take (i := 6) (oi := _) (v := ?vwf6) rfl rfl (by kernel_rfl) (by kernel_rfl) (by kernel_rfl) (fun _ _ _ h => h) (Or.inl ⟨by rfl, ?hzf6⟩) ?rstf6
    case hzf6 => (intro wS hSw; go_simp; try with_reducible rfl)
    simp only [Act.put, List.getElem_toArray, List.getElem_cons_zero, List.getElem_cons_succ, List.setIfInBounds_toArray, List.set_cons_zero, List.set_cons_succ]
    refine AUS_take (by kernel_rfl) rfl (i := 3) (oi := _) (v := ?vwf3) rfl (by kernel_rfl) (by kernel_rfl) (by kernel_rfl) (fun _ _ _ h => h) (Or.inl ⟨by rfl, ?hzf3⟩) hHeld ?rstf3
    case hzf3 => (intro wS hSw; obtain ⟨f0, f1, f2, f3, f4, f5, f6⟩ := hSw.cells; clear hSw; go_simp; try with_reducible rfl)
    simp only [Act.put, List.getElem_toArray, List.getElem_cons_zero, List.getElem_cons_succ, List.setIfInBounds_toArray, List.set_cons_zero, List.set_cons_succ]
    refine AUS_take (by kernel_rfl) rfl (i := 8) (oi := _) (v := ?vwf8) rfl (by kernel_rfl) (by kernel_rfl) (by kernel_rfl) (fun _ _ _ h => h) (Or.inl ⟨by rfl, ?hzf8⟩) hHeld ?rstf8
    case hzf8 => (intro wS hSw; obtain ⟨f0, f1, f2, f3, f4, f5, f6⟩ := hSw.cells; clear hSw; go_simp; try with_reducible rfl)
    simp only [Act.put, List.getElem_toArray, List.getElem_cons_zero, List.getElem_cons_succ, List.setIfInBounds_toArray, List.set_cons_zero, List.set_cons_succ]
    refine AUS_take (by kernel_rfl) rfl (i := 10) (oi := _) (v := ?vwf10) rfl (by kernel_rfl) (by kernel_rfl) (by kernel_rfl) (fun _ _ _ h => h) (Or.inl ⟨by rfl, ?hzf10⟩) hHeld ?rstf10
    case hzf10 => (intro wS hSw; obtain ⟨f0, f1, f2, f3, f4, f5, f6⟩ := hSw.cells; clear hSw; go_simp; try with_reducible rfl)
    simp only [Act.put, List.getElem_toArray, List.getElem_cons_zero, List.getElem_cons_succ, List.setIfInBounds_toArray, List.set_cons_zero, List.set_cons_succ]
    refine AU_one (i := 11) (o := _) (by kernel_rfl) rfl (fun K hK => ?_)
    go_simp
    refine (CP.out nq).mono ?_
    rintro e w5 ⟨rfl, h5⟩
    have S5 : CB w5 C ⟨k, h, off, m, at_, z, Ad, l, c⟩ := CB.kp (w := (W1.drewN nq).drew) HC1.out (by obtain ⟨_, _, h, _⟩ := h5; exact h)
    have H5 := Lib.hid h5
    clear h5
    refine hK.out _ _ (fun _ => S5) ?_
    clear hK K
    try simp only [Act.put, List.getElem_toArray, List.getElem_cons_zero, List.getElem_cons_succ, List.setIfInBounds_toArray, List.set_cons_zero, List.set_cons_succ]
    refine AU_one (i := 13) (o := _) (by kernel_rfl) rfl (fun K hK => ?_)
    go_simp
    refine hK.out _ _ (fun _ => S5) ?_
    clear hK K
    try simp only [Act.put, List.getElem_toArray, List.getElem_cons_zero, List.getElem_cons_succ, List.setIfInBounds_toArray, List.set_cons_zero, List.set_cons_succ]
    refine AU_done (by kernel_rfl) ?_ _
    simp only [OnlyN]
    clear S5 hHeld
    obtain ⟨hi, he, eL, hom, hki, eLk, ham, hL, hLk⟩ := HB.out
    have hkp : Kp (W1.drewN nq).drew w5 := by obtain ⟨_, _, h, _⟩ := H5.out; exact h
    obtain ⟨ds', hQ5, hc5, hc5o⟩ := ((HQ1.out.1.drewN nq).drew).wrd hi H5.out
    have hC5 : CB w5 C ⟨k, h, off, m, at_, z, Ad, l, c⟩ := CB.kp (w := (W1.drewN nq).drew) HQ1.out.2 hkp
    obtain ⟨q0, q1, q2, q3, q4, q5, q6⟩ := hC5.cells
    go_upto_region 13 with fail
    obtain ⟨W6, eW6⟩ : ∃ W6, w5.drew = W6 := ⟨_, rfl⟩
    have hQ6 : QS W R B M os ds' fs x gs mc W6 := by rw [← eW6]; exact hQ5.drew
    have hC6 : CB W6 C ⟨k, h, off, m, at_, z, Ad, l, c⟩ := by rw [← eW6]; exact hC5
    obtain ⟨Az, ez, hrk⟩ := (hQ6.mr i hki).form
    rw [HEXK.out, eLk] at ez
    injection ez with ez
    subst ez
    have hch : (((mc i).drop at_).take m).length = m := by rw [List.length_take, List.length_drop]; omega
    obtain ⟨v7, W7, hap, hb7, S7, hT7, hS7⟩ := append_b (own := fun _ => False) (xs := []) (ys := ((mc i).drop at_).take m) 30 (RW.nil _ W6) (by rw [hch]; simp; omega) (if L = at_ then Ax else Ax.map (·.add at_)) (L - at_) (br_at hrk eLk at_ m)
    rw [hch] at hap
    have hbel : Below W6.heap.size W6 W7 := hT7.below (Nat.le_refl _) (fun y hy => ((hS7 y hy).1).elim)
    obtain ⟨A7, c7, e7, _, _, hr7, _, _⟩ := hb7.form
    rw [List.nil_append] at e7 hr7
    rw [hch] at e7
    subst e7
    have hQ7 := hQ6.below hbel
    have hC7 := hC6.below hbel
    have hmr := hQ7.mr i hi
    rw [HEX.out] at hmr
    obtain ⟨W8, hcopy, hm8, hT8, hs8⟩ := hmr.copy (off := off) (n := m) (dl := m) (dc := L - off) (c := c7) (dat := ((mc i).drop at_).take m) 3 eL hom (Nat.le_refl _) hch hr7
    have hQ8 := hQ7.row hi hT8 (by rw [HEX.out]; exact hm8) (fun h0 => hs8 (by rw [h0] at eL; simp at eL; omega))
    have HP := Lib.hid (show PI W R B M W8 from ⟨_, _, _, _, _, _, hQ8, eq_up he (by rw [hc5, he i hi]) hc5o⟩)
    have hC8 : CB W8 C ⟨k, h, off, m, at_, z, Ad, l, c⟩ := by
      rcases hQ7.mr i hi with ⟨e0, _⟩ | ⟨_, h2, _⟩
      · have e9 := hs8 (by rw [e0] at eL; simp at eL; omega)
        rw [e9]; exact hC7
      · refine (hT8.block C (Array.getElem?_eq_some_iff.1 hC7).1 (fun hm => ?_)).trans hC7
        have hg := List.mem_singleton.1 hm
        unfold CB at hC7
        rw [hg, h2] at hC7; simp at hC7
    have SA := And.intro hQ6.mm hC6
    have SB := Lib.hid (And.intro hQ7.mm hC7)
    have SC := Lib.hid (And.intro hQ8.mm hC8)
    have HAP := Lib.hid hap
    have HCP := Lib.hid hcopy
    obtain ⟨en, een⟩ : ∃ en, off + m = en := ⟨_, rfl⟩
    obtain ⟨ek, eek⟩ : ∃ ek, at_ + m = ek := ⟨_, rfl⟩
    have s1 : (off : Int) ≤ (en : Int) := by omega
    have s2 : (en : Int) ≤ (L : Int) := by omega
    have s3 : en - off = m := by omega
    have s4 : (at_ : Int) ≤ (ek : Int) := by omega
    have s5 : (ek : Int) ≤ (L : Int) := by omega
    have s6 : ek - at_ = m := by omega
    have s7 : (0 : Int) ≤ (off : Int) := Int.natCast_nonneg _
    have s8 : (0 : Int) ≤ (at_ : Int) := Int.natCast_nonneg _
    have hx1 : x i = .slice Ax L L := HEX.out
    have hx2 : x i = .slice Ax L L := HEXK.out
    have HM := Lib.hid (fun (Wz : World) (hm : Wz.heap[M]? = some (Obj.cells #[x 0, x 1] 30)) => show Wz.cell? ⟨M, i, none⟩ = some (.slice Ax L L) ∧ Wz.cell? ⟨M, i, none⟩ = some (.slice Ax L L) from by
      rw [← hx1, cell_of_row _ _ _ _ _ (0, 0) hm]
      exact ⟨two_at hi, two_at hki⟩)
    have h5000 : off + m ≤ 5000 := by omega
    have h5001 : at_ + m ≤ 5000 := by omega
    obtain ⟨s9, s10⟩ := w_add h5000 een
    obtain ⟨s11, s12⟩ := w_add h5001 eek
    clear hi he eL hom hki eLk ham hL hLk hkp hQ5 hc5 hc5o hC5 hQ6 hC6 hrk hch hap hb7 hT7 hS7 hbel hr7 hQ7 hC7 hmr hcopy hm8 hT8 hs8 hQ8 hC8 hx1 hx2 q0 q1 q2 q3 q4 q5 q6 h5000 h5001 een eek HB H5 CP HCW HCK HQ1 HSV HSK HE
    refine region_AU (Z := fun j => j == 0 || j == 1 || j == 4 || j == 6 || j == 8 || j == 12 || j == 13 || j == 16 || j == 18 || j == 20 || j == 2 || j == 14) (S := fun Wz => Wz.heap[M]? = some (Obj.cells #[x 0, x 1] 30) ∧ CB Wz C ⟨k, h, off, m, at_, z, Ad, l, c⟩) (by kernel_rfl) (by rw [eW6]; exact SA) (fun hHeld => ?_)
    rw [eW6] at hHeld ⊢
    clear eW6 SA
    refine AUP_take (i := 0) (oi := _) (v := ?vwc0) rfl rfl (by kernel_rfl) (by kernel_rfl) (by kernel_rfl) (fun _ _ _ h => h) (Or.inl ⟨by rfl, ?hzc0⟩) ?rstc0
    case hzc0 => (intro wS hSw; go_simp; try with_reducible rfl)
    simp only [Act.put, List.getElem_toArray, List.getElem_cons_zero, List.getElem_cons_succ, List.setIfInBounds_toArray, List.set_cons_zero, List.set_cons_succ]
    refine AUP_take (i := 1) (oi := _) (v := ?vwc1) rfl rfl (by kernel_rfl) (by kernel_rfl) (by kernel_rfl) (fun _ _ _ h => h) (Or.inl ⟨by rfl, ?hzc1⟩) ?rstc1
    case hzc1 => (intro wS hSw; go_simp; try with_reducible rfl)
    simp only [Act.put, List.getElem_toArray, List.getElem_cons_zero, List.getElem_cons_succ, List.setIfInBounds_toArray, List.set_cons_zero, List.set_cons_succ]
    refine AUP_take (i := 4) (oi := _) (v := ?vwc4) rfl rfl (by kernel_rfl) (by kernel_rfl) (by kernel_rfl) (fun _ _ _ h => h) (Or.inl ⟨by rfl, ?hzc4⟩) ?rstc4
    case hzc4 => (intro wS hSw; go_simp; try with_reducible rfl)
    simp only [Act.put, List.getElem_toArray, List.getElem_cons_zero, List.getElem_cons_succ, List.setIfInBounds_toArray, List.set_cons_zero, List.set_cons_succ]
    refine AUP_take (i := 6) (oi := _) (v := ?vwc6) rfl rfl (by kernel_rfl) (by kernel_rfl) (by kernel_rfl) (fun _ _ _ h => h) (Or.inl ⟨by rfl, ?hzc6⟩) ?rstc6
    case hzc6 => (intro wS hSw; go_simp; try with_reducible rfl)
    simp only [Act.put, List.getElem_toArray, List.getElem_cons_zero, List.getElem_cons_succ, List.setIfInBounds_toArray, List.set_cons_zero, List.set_cons_succ]
    refine AUP_take (i := 8) (oi := _) (v := ?vwc8) rfl rfl (by kernel_rfl) (by kernel_rfl) (by kernel_rfl) (fun _ _ _ h => h) (Or.inl ⟨by rfl, ?hzc8⟩) ?rstc8
    case hzc8 => (intro wS hSw; go_simp; try with_reducible rfl)
    simp only [Act.put, List.getElem_toArray, List.getElem_cons_zero, List.getElem_cons_succ, List.setIfInBounds_toArray, List.set_cons_zero, List.set_cons_succ]
    refine AUP_take (i := 12) (oi := _) (v := ?vwc12) rfl rfl (by kernel_rfl) (by kernel_rfl) (by kernel_rfl) (fun _ _ _ h => h) (Or.inl ⟨by rfl, ?hzc12⟩) ?rstc12
    case hzc12 => (intro wS hSw; go_simp; try with_reducible rfl)
    simp only [Act.put, List.getElem_toArray, List.getElem_cons_zero, List.getElem_cons_succ, List.setIfInBounds_toArray, List.set_cons_zero, List.set_cons_succ]
    refine AUP_take (i := 13) (oi := _) (v := ?vwc13) rfl rfl (by kernel_rfl) (by kernel_rfl) (by kernel_rfl) (fun _ _ _ h => h) (Or.inl ⟨by rfl, ?hzc13⟩) ?rstc13
    case hzc13 => (intro wS hSw; go_simp; try with_reducible rfl)
    simp only [Act.put, List.getElem_toArray, List.getElem_cons_zero, List.getElem_cons_succ, List.setIfInBounds_toArray, List.set_cons_zero, List.set_cons_succ]
    refine AUP_take (i := 16) (oi := _) (v := ?vwc16) rfl rfl (by kernel_rfl) (by kernel_rfl) (by kernel_rfl) (fun _ _ _ h => h) (Or.inl ⟨by rfl, ?hzc16⟩) ?rstc16
    case hzc16 => (intro wS hSw; go_simp; try with_reducible rfl)
    simp only [Act.put, List.getElem_toArray, List.getElem_cons_zero, List.getElem_cons_succ, List.setIfInBounds_toArray, List.set_cons_zero, List.set_cons_succ]
    refine AUP_take (i := 18) (oi := _) (v := ?vwc18) rfl rfl (by kernel_rfl) (by kernel_rfl) (by kernel_rfl) (fun _ _ _ h => h) (Or.inl ⟨by rfl, ?hzc18⟩) ?rstc18
    case hzc18 => (intro wS hSw; go_simp; try with_reducible rfl)
    simp only [Act.put, List.getElem_toArray, List.getElem_cons_zero, List.getElem_cons_succ, List.setIfInBounds_toArray, List.set_cons_zero, List.set_cons_succ]
    refine AUP_take (i := 20) (oi := _) (v := ?vwc20) rfl rfl (by kernel_rfl) (by kernel_rfl) (by kernel_rfl) (fun _ _ _ h => h) (Or.inl ⟨by rfl, ?hzc20⟩) ?rstc20
    case hzc20 => (intro wS hSw; go_simp; try with_reducible rfl)
    simp only [Act.put, List.getElem_toArray, List.getElem_cons_zero, List.getElem_cons_succ, List.setIfInBounds_toArray, List.set_cons_zero, List.set_cons_succ]
    refine AUP_take (i := 2) (oi := _) (v := ?vwc2) rfl rfl (by kernel_rfl) (by kernel_rfl) (by kernel_rfl) (fun _ _ _ h => h) (Or.inl ⟨by rfl, ?hzc2⟩) ?rstc2
    case hzc2 => (intro wS hSw; go_simp; try with_reducible rfl)
    simp only [Act.put, List.getElem_toArray, List.getElem_cons_zero, List.getElem_cons_succ, List.setIfInBounds_toArray, List.set_cons_zero, List.set_cons_succ]
    refine AUP_take (i := 14) (oi := _) (v := ?vwc14) rfl rfl (by kernel_rfl) (by kernel_rfl) (by kernel_rfl) (fun _ _ _ h => h) (Or.inl ⟨by rfl, ?hzc14⟩) ?rstc14
    case hzc14 => (intro wS hSw; go_simp; try with_reducible rfl)
    simp only [Act.put, List.getElem_toArray, List.getElem_cons_zero, List.getElem_cons_succ, List.setIfInBounds_toArray, List.set_cons_zero, List.set_cons_succ]
    refine AUS_take (by kernel_rfl) rfl (i := 3) (oi := _) (v := ?vwc3) rfl (by kernel_rfl) (by kernel_rfl) (by kernel_rfl) (fun _ _ _ h => h) (Or.inl ⟨by rfl, ?hzc3⟩) hHeld ?rstc3
    case hzc3 => (intro wS hSw; obtain ⟨y1, y2⟩ := HM.out _ hSw.1; clear hSw; go_simp; try with_reducible rfl)
    simp only [Act.put, List.getElem_toArray, List.getElem_cons_zero, List.getElem_cons_succ, List.setIfInBounds_toArray, List.set_cons_zero, List.set_cons_succ]
    refine AUS_take (by kernel_rfl) rfl (i := 5) (oi := _) (v := ?vwc5) rfl (by kernel_rfl) (by kernel_rfl) (by kernel_rfl) (fun _ _ _ h => h) (Or.inl ⟨by rfl, ?hzc5⟩) hHeld ?rstc5
    case hzc5 => (intro wS hSw; obtain ⟨f0, f1, f2, f3, f4, f5, f6⟩ := hSw.2.cells; clear hSw; go_simp; try with_reducible rfl)
    simp only [Act.put, List.getElem_toArray, List.getElem_cons_zero, List.getElem_cons_succ, List.setIfInBounds_toArray, List.set_cons_zero, List.set_cons_succ]
    refine AUS_take (by kernel_rfl) rfl (i := 7) (oi := _) (v := ?vwc7) rfl (by kernel_rfl) (by kernel_rfl) (by kernel_rfl) (fun _ _ _ h => h) (Or.inl ⟨by rfl, ?hzc7⟩) hHeld ?rstc7
    case hzc7 => (intro wS hSw; obtain ⟨f0, f1, f2, f3, f4, f5, f6⟩ := hSw.2.cells; clear hSw; go_simp; try with_reducible rfl)
    simp only [Act.put, List.getElem_toArray, List.getElem_cons_zero, List.getElem_cons_succ, List.setIfInBounds_toArray, List.set_cons_zero, List.set_cons_succ]
    refine AUS_take (by kernel_rfl) rfl (i := 9) (oi := _) (v := ?vwc9) rfl (by kernel_rfl) (by kernel_rfl) (by kernel_rfl) (fun _ _ _ h => h) (Or.inl ⟨by rfl, ?hzc9⟩) hHeld ?rstc9
    case hzc9 => (intro wS hSw; obtain ⟨f0, f1, f2, f3, f4, f5, f6⟩ := hSw.2.cells; clear hSw; go_simp; try with_reducible rfl)
    simp only [Act.put, List.getElem_toArray, List.getElem_cons_zero, List.getElem_cons_succ, List.setIfInBounds_toArray, List.set_cons_zero, List.set_cons_succ]
    refine AUS_take (by kernel_rfl) rfl (i := 10) (oi := _) (v := ?vwc10) rfl (by kernel_rfl) (by kernel_rfl) (by kernel_rfl) (fun _ _ _ h => h) (Or.inl ⟨by rfl, ?hzc10⟩) hHeld ?rstc10
    case hzc10 => (intro wS hSw; clear hSw; go_simp; try with_reducible rfl)
    simp only [Act.put, List.getElem_toArray, List.getElem_cons_zero, List.getElem_cons_succ, List.setIfInBounds_toArray, List.set_cons_zero, List.set_cons_succ]
    refine AUS_take (by kernel_rfl) rfl (i := 11) (oi := _) (v := ?vwc11) rfl (by kernel_rfl) (by kernel_rfl) (by kernel_rfl) (fun _ _ _ h => h) (Or.inl ⟨by rfl, ?hzc11⟩) hHeld ?rstc11
    case hzc11 => (intro wS hSw; clear hSw; go_simp; try with_reducible rfl)
    simp only [Act.put, List.getElem_toArray, List.getElem_cons_zero, List.getElem_cons_succ, List.setIfInBounds_toArray, List.set_cons_zero, List.set_cons_succ]
    refine AUS_take (by kernel_rfl) rfl (i := 15) (oi := _) (v := ?vwc15) rfl (by kernel_rfl) (by kernel_rfl) (by kernel_rfl) (fun _ _ _ h => h) (Or.inl ⟨by rfl, ?hzc15⟩) hHeld ?rstc15
    case hzc15 => (intro wS hSw; obtain ⟨y1, y2⟩ := HM.out _ hSw.1; clear hSw; go_simp; try with_reducible rfl)
    simp only [Act.put, List.getElem_toArray, List.getElem_cons_zero, List.getElem_cons_succ, List.setIfInBounds_toArray, List.set_cons_zero, List.set_cons_succ]
    refine AUS_take (by kernel_rfl) rfl (i := 17) (oi := _) (v := ?vwc17) rfl (by kernel_rfl) (by kernel_rfl) (by kernel_rfl) (fun _ _ _ h => h) (Or.inl ⟨by rfl, ?hzc17⟩) hHeld ?rstc17
    case hzc17 => (intro wS hSw; obtain ⟨f0, f1, f2, f3, f4, f5, f6⟩ := hSw.2.cells; clear hSw; go_simp; try with_reducible rfl)
    simp only [Act.put, List.getElem_toArray, List.getElem_cons_zero, List.getElem_cons_succ, List.setIfInBounds_toArray, List.set_cons_zero, List.set_cons_succ]
    refine AUS_take (by kernel_rfl) rfl (i := 19) (oi := _) (v := ?vwc19) rfl (by kernel_rfl) (by kernel_rfl) (by kernel_rfl) (fun _ _ _ h => h) (Or.inl ⟨by rfl, ?hzc19⟩) hHeld ?rstc19
    case hzc19 => (intro wS hSw; obtain ⟨f0, f1, f2, f3, f4, f5, f6⟩ := hSw.2.cells; clear hSw; go_simp; try with_reducible rfl)
    simp only [Act.put, List.getElem_toArray, List.getElem_cons_zero, List.getElem_cons_succ, List.setIfInBounds_toArray, List.set_cons_zero, List.set_cons_succ]
    refine AUS_take (by kernel_rfl) rfl (i := 21) (oi := _) (v := ?vwc21) rfl (by kernel_rfl) (by kernel_rfl) (by kernel_rfl) (fun _ _ _ h => h) (Or.inl ⟨by rfl, ?hzc21⟩) hHeld ?rstc21
    case hzc21 => (intro wS hSw; obtain ⟨f0, f1, f2, f3, f4, f5, f6⟩ := hSw.2.cells; clear hSw; go_simp; try with_reducible rfl)
    simp only [Act.put, List.getElem_toArray, List.getElem_cons_zero, List.getElem_cons_succ, List.setIfInBounds_toArray, List.set_cons_zero, List.set_cons_succ]
    refine AUS_take (by kernel_rfl) rfl (i := 22) (oi := _) (v := ?vwc22) rfl (by kernel_rfl) (by kernel_rfl) (by kernel_rfl) (fun _ _ _ h => h) (Or.inl ⟨by rfl, ?hzc22⟩) hHeld ?rstc22
    case hzc22 => (intro wS hSw; clear hSw; go_simp; try with_reducible rfl)
    simp only [Act.put, List.getElem_toArray, List.getElem_cons_zero, List.getElem_cons_succ, List.setIfInBounds_toArray, List.set_cons_zero, List.set_cons_succ]
    refine AUS_take (by kernel_rfl) rfl (i := 23) (oi := _) (v := ?vwc23) rfl (by kernel_rfl) (by kernel_rfl) (by kernel_rfl) (fun _ _ _ h => h) (Or.inl ⟨by rfl, ?hzc23⟩) hHeld ?rstc23
    case hzc23 => (intro wS hSw; clear hSw; go_simp; try with_reducible rfl)
    simp only [Act.put, List.getElem_toArray, List.getElem_cons_zero, List.getElem_cons_succ, List.setIfInBounds_toArray, List.set_cons_zero, List.set_cons_succ]
    refine AU_one (i := 24) (o := _) (by kernel_rfl) rfl (fun K hK => ?_)
    refine step_append rfl (.const (.slice none 0 0)) (.tmp 114) 30 30 rfl _ _ _ rfl rfl W7 HAP.out ?_
    refine hK.out _ _ (fun _ => SB.out) ?_
    clear hK K
    try simp only [Act.put, List.getElem_toArray, List.getElem_cons_zero, List.getElem_cons_succ, List.setIfInBounds_toArray, List.set_cons_zero, List.set_cons_succ]
    refine AU_one (i := 25) (o := _) (by kernel_rfl) rfl (fun K hK => ?_)
    refine step_copy_by rfl (.tmp 102) (.tmp 115) 30 30 rfl _ _ _ rfl rfl W8 HCP.out ?_
    refine hK.out _ _ (fun _ => SC.out) ?_
    clear hK K
    try simp only [Act.put, List.getElem_toArray, List.getElem_cons_zero, List.getElem_cons_succ, List.setIfInBounds_toArray, List.set_cons_zero, List.set_cons_succ]
    refine AU_done (by kernel_rfl) ?_ _
    simp only [OnlyN]
    go_wp2_with fail
    all_goals
      go_ret
      exact ⟨rfl, HP.out⟩
  · have HC1 := Lib.hid HQ1.out.2
    have HMC := Lib.hid (And.intro HQ1.out.1.mm HQ1.out.2)
    have hx1 : x i = .slice Ax L L := HEX.out
    have hx2 : x i = .slice Ax L L := HEXK.out
    have HM := Lib.hid (fun (Wz : World) (hm : Wz.heap[M]? = some (Obj.cells #[x 0, x 1] 30)) => show Wz.cell? ⟨M, i, none⟩ = some (.slice Ax L L) ∧ Wz.cell? ⟨M, i, none⟩ = some (.slice Ax L L) from by
      rw [← hx1, cell_of_row _ _ _ _ _ (0, 0) hm]
      exact ⟨two_at hi, two_at hki⟩)
    obtain ⟨S, hp, -⟩ := HQ1.out.1.lw.2
    have CP := Lib.hid (fun (Wz : World) (hb : Below W1.heap.size W1 Wz) => copy_no (off := o) (at_ := a) (n := n) (HSV.out.below hb) (HSK.out.below hb) (hp.below hb) (HQ1.out.1.ow i hki).live hn.1 hn.2 hin)
    have HP := Lib.hid (fun (Wz : World) (hb : Below W1.heap.size W1 Wz) => show PI W R B M Wz from ⟨_, _, _, _, _, _, HQ1.out.1.below hb, he⟩)
    have HCK := Lib.hid (fun W' => within_c L a n W' (by omega) ha hn)
    have HCW := Lib.hid (fun W' => within_c L o n W' (by omega) ho hn)
    have hor : wi L a n = false ∨ (wi L a n = true ∧ wi L o n = false) := by
      cases e1 : wi L a n with
      | false => exact .inl rfl
      | true =>
        cases e2 : wi L o n with
        | false => exact .inr ⟨rfl, rfl⟩
        | true =>
          have h1 := wi_iff.1 e1
          have h2 := wi_iff.1 e2
          exact absurd ⟨h1.1, ⟨h2.2.1, by omega⟩, h1.2.1, by omega⟩ hin
    clear ho hn ha hz hdl hdc hdr hdb hi he eL hl64 hL hin HY hki eLk hlk64 hLk hx1 hx2 hp HQ1 HSV HSK
    obtain ⟨eh, e1, e2, e3⟩ := HE.out
    rcases hor with hf | ⟨hf1, hf2⟩
    · rw [hf] at HCK
      clear hf HCW
      go_upto_region 9 with fail
      have hHDdp := HMC.out
      refine region_AU (Z := fun j => j == 0 || j == 1 || j == 2 || j == 6 || j == 8 || j == 3) (S := fun Wz => Wz.heap[M]? = some (Obj.cells #[x 0, x 1] 30) ∧ CB Wz C ⟨k, h, o, n, a, z, Ad, l, c⟩) (by kernel_rfl) (⟨hHDdp.1, hHDdp.2⟩) (fun hHeld => ?_)
      clear hHDdp q0 q1 q2 q3 q4 q5 q6 cM eh e1 e2 e3
      refine AUP_take (i := 0) (oi := _) (v := ?vwdp0) rfl rfl (by kernel_rfl) (by kernel_rfl) (by kernel_rfl) (fun _ _ _ h => h) (Or.inl ⟨by rfl, ?hzdp0⟩) ?rstdp0
      case hzdp0 => (intro wS hSw; go_simp; try with_reducible rfl)
      simp only [Act.put, List.getElem_toArray, List.getElem_cons_zero, List.getElem_cons_succ, List.setIfInBounds_toArray, List.set_cons_zero, List.set_cons_succ]
      refine AUP_take (i := 1) (oi := _) (v := ?vwdp1) rfl rfl (by kernel_rfl) (by kernel_rfl) (by kernel_rfl) (fun _ _ _ h => h) (Or.inl ⟨by rfl, ?hzdp1⟩) ?rstdp1
      case hzdp1 => (intro wS hSw; go_simp; try with_reducible rfl)
      simp only [Act.put, List.getElem_toArray, List.getElem_cons_zero, List.getElem_cons_succ, List.setIfInBounds_toArray, List.set_cons_zero, List.set_cons_succ]
      refine AUP_take (i := 2) (oi := _) (v := ?vwdp2) rfl rfl (by kernel_rfl) (by kernel_rfl) (by kernel_rfl) (fun _ _ _ h => h) (Or.inl ⟨by rfl, ?hzdp2⟩) ?rstdp2
      case hzdp2 => (intro wS hSw; go_simp; try with_reducible rfl)
      simp only [Act.put, List.getElem_toArray, List.getElem_cons_zero, List.getElem_cons_succ, List.setIfInBounds_toArray, List.set_cons_zero, List.set_cons_succ]
      refine AUP_take (i := 6) (oi := _) (v := ?vwdp6) rfl rfl (by kernel_rfl) (by kernel_rfl) (by kernel_rfl) (fun _ _ _ h => h) (Or.inl ⟨by rfl, ?hzdp6⟩) ?rstdp6
      case hzdp6 => (intro wS hSw; go_simp; try with_reducible rfl)
      simp only [Act.put, List.getElem_toArray, List.getElem_cons_zero, List.getElem_cons_succ, List.setIfInBounds_toArray, List.set_cons_zero, List.set_cons_succ]
      refine AUP_take (i := 8) (oi := _) (v := ?vwdp8) rfl rfl (by kernel_rfl) (by kernel_rfl) (by kernel_rfl) (fun _ _ _ h => h) (Or.inl ⟨by rfl, ?hzdp8⟩) ?rstdp8
      case hzdp8 => (intro wS hSw; go_simp; try with_reducible rfl)
      simp only [Act.put, List.getElem_toArray, List.getElem_cons_zero, List.getElem_cons_succ, List.setIfInBounds_toArray, List.set_cons_zero, List.set_cons_succ]
      refine AUP_take (i := 3) (oi := _) (v := ?vwdp3) rfl rfl (by kernel_rfl) (by kernel_rfl) (by kernel_rfl) (fun _ _ _ h => h) (Or.inl ⟨by rfl, ?hzdp3⟩) ?rstdp3
      case hzdp3 => (intro wS hSw; go_simp; try with_reducible rfl)
      simp only [Act.put, List.getElem_toArray, List.getElem_cons_zero, List.getElem_cons_succ, List.setIfInBounds_toArray, List.set_cons_zero, List.set_cons_succ]
      refine AUS_take (by kernel_rfl) rfl (i := 4) (oi := _) (v := ?vwdp4) rfl (by kernel_rfl) (by kernel_rfl) (by kernel_rfl) (fun _ _ _ h => h) (Or.inl ⟨by rfl, ?hzdp4⟩) hHeld ?rstdp4
      case hzdp4 => (intro wS hSw; obtain ⟨y1, y2⟩ := HM.out _ hSw.1; clear hSw; go_simp; try with_reducible rfl)
      simp only [Act.put, List.getElem_toArray, List.getElem_cons_zero, List.getElem_cons_succ, List.setIfInBounds_toArray, List.set_cons_zero, List.set_cons_succ]
      refine AUS_take (by kernel_rfl) rfl (i := 5) (oi := _) (v := ?vwdp5) rfl (by kernel_rfl) (by kernel_rfl) (by kernel_rfl) (fun _ _ _ h => h) (Or.inl ⟨by rfl, ?hzdp5⟩) hHeld ?rstdp5
      case hzdp5 => (intro wS hSw; clear hSw; go_simp; try with_reducible rfl)
      simp only [Act.put, List.getElem_toArray, List.getElem_cons_zero, List.getElem_cons_succ, List.setIfInBounds_toArray, List.set_cons_zero, List.set_cons_succ]
      refine AUS_take (by kernel_rfl) rfl (i := 7) (oi := _) (v := ?vwdp7) rfl (by kernel_rfl) (by kernel_rfl) (by kernel_rfl) (fun _ _ _ h => h) (Or.inl ⟨by rfl, ?hzdp7⟩) hHeld ?rstdp7
      case hzdp7 => (intro wS hSw; obtain ⟨f0, f1, f2, f3, f4, f5, f6⟩ := hSw.2.cells; clear hSw; go_simp; try with_reducible rfl)
      simp only [Act.put, List.getElem_toArray, List.getElem_cons_zero, List.getElem_cons_succ, List.setIfInBounds_toArray, List.set_cons_zero, List.set_cons_succ]
      refine AUS_take (by kernel_rfl) rfl (i := 9) (oi := _) (v := ?vwdp9) rfl (by kernel_rfl) (by kernel_rfl) (by kernel_rfl) (fun _ _ _ h => h) (Or.inl ⟨by rfl, ?hzdp9⟩) hHeld ?rstdp9
      case hzdp9 => (intro wS hSw; obtain ⟨f0, f1, f2, f3, f4, f5, f6⟩ := hSw.2.cells; clear hSw; go_simp; try with_reducible rfl)
      simp only [Act.put, List.getElem_toArray, List.getElem_cons_zero, List.getElem_cons_succ, List.setIfInBounds_toArray, List.set_cons_zero, List.set_cons_succ]
      refine AU_one (i := 10) (o := _) (by kernel_rfl) rfl (fun K hK => ?_)
      go_simp
      refine (HCK.out _).mono ?_
      rintro e w4 ⟨rfl, rfl⟩
      refine hK.out _ _ (fun _ => hHeld) ?_
      clear hK K
      try simp only [Act.put, List.getElem_toArray, List.getElem_cons_zero, List.getElem_cons_succ, List.setIfInBounds_toArray, List.set_cons_zero, List.set_cons_succ]
      refine AUS_take (by kernel_rfl) rfl (i := 11) (oi := _) (v := ?vwdp11) rfl (by kernel_rfl) (by kernel_rfl) (by kernel_rfl) (fun _ _ _ h => h) (Or.inl ⟨by rfl, ?hzdp11⟩) hHeld ?rstdp11
      case hzdp11 => (intro wS hSw; clear hSw; go_simp; try with_reducible rfl)
      simp only [Act.put, List.getElem_toArray, List.getElem_cons_zero, List.getElem_cons_succ, List.setIfInBounds_toArray, List.set_cons_zero, List.set_cons_succ]
      refine AUS_take (by kernel_rfl) rfl (i := 12) (oi := _) (v := undef) rfl (by kernel_rfl) (by kernel_rfl) (by kernel_rfl) (fun _ _ _ h => h) (Or.inr ⟨by rfl, rfl⟩) hHeld ?rstdp12
      try simp only [Act.put, List.getElem_toArray, List.getElem_cons_zero, List.getElem_cons_succ, List.setIfInBounds_toArray, List.set_cons_zero, List.set_cons_succ]
      refine AUS_take (by kernel_rfl) rfl (i := 13) (oi := _) (v := undef) rfl (by kernel_rfl) (by kernel_rfl) (by kernel_rfl) (fun _ _ _ h => h) (Or.inr ⟨by rfl, rfl⟩) hHeld ?rstdp13
      try simp only [Act.put, List.getElem_toArray, List.getElem_cons_zero, List.getElem_cons_succ, List.setIfInBounds_toArray, List.set_cons_zero, List.set_cons_succ]
      refine AUS_take (by kernel_rfl) rfl (i := 14) (oi := _) (v := undef) rfl (by kernel_rfl) (by kernel_rfl) (by kernel_rfl) (fun _ _ _ h => h) (Or.inr ⟨by rfl, rfl⟩) hHeld ?rstdp14
      try simp only [Act.put, List.getElem_toArray, List.getElem_cons_zero, List.getElem_cons_succ, List.setIfInBounds_toArray, List.set_cons_zero, List.set_cons_succ]
      refine AUS_take (by kernel_rfl) rfl (i := 15) (oi := _) (v := undef) rfl (by kernel_rfl) (by kernel_rfl) (by kernel_rfl) (fun _ _ _ h => h) (Or.inr ⟨by rfl, rfl⟩) hHeld ?rstdp15
      try simp only [Act.put, List.getElem_toArray, List.getElem_cons_zero, List.getElem_cons_succ, List.setIfInBounds_toArray, List.set_cons_zero, List.set_cons_succ]
      refine AUS_take (by kernel_rfl) rfl (i := 16) (oi := _) (v := undef) rfl (by kernel_rfl) (by kernel_rfl) (by kernel_rfl) (fun _ _ _ h => h) (Or.inr ⟨by rfl, rfl⟩) hHeld ?rstdp16
      try simp only [Act.put, List.getElem_toArray, List.getElem_cons_zero, List.getElem_cons_succ, List.setIfInBounds_toArray, List.set_cons_zero, List.set_cons_succ]
      refine AUS_take (by kernel_rfl) rfl (i := 17) (oi := _) (v := undef) rfl (by kernel_rfl) (by kernel_rfl) (by kernel_rfl) (fun _ _ _ h => h) (Or.inr ⟨by rfl, rfl⟩) hHeld ?rstdp17
      try simp only [Act.put, List.getElem_toArray, List.getElem_cons_zero, List.getElem_cons_succ, List.setIfInBounds_toArray, List.set_cons_zero, List.set_cons_succ]
      refine AUS_take (by kernel_rfl) rfl (i := 18) (oi := _) (v := undef) rfl (by kernel_rfl) (by kernel_rfl) (by kernel_rfl) (fun _ _ _ h => h) (Or.inr ⟨by rfl, rfl⟩) hHeld ?rstdp18
      try simp only [Act.put, List.getElem_toArray, List.getElem_cons_zero, List.getElem_cons_succ, List.setIfInBounds_toArray, List.set_cons_zero, List.set_cons_succ]
      refine AUS_take (by kernel_rfl) rfl (i := 19) (oi := _) (v := ?vwdp19) rfl (by kernel_rfl) (by kernel_rfl) (by kernel_rfl) (fun _ _ _ h => h) (Or.inl ⟨by rfl, ?hzdp19⟩) hHeld ?rstdp19
      case hzdp19 => (intro wS hSw; clear hSw; go_simp; try with_reducible rfl)
      simp only [Act.put, List.getElem_toArray, List.getElem_cons_zero, List.getElem_cons_succ, List.setIfInBounds_toArray, List.set_cons_zero, List.set_cons_succ]
      refine AUS_take (by kernel_rfl) rfl (i := 20) (oi := _) (v := ?vwdp20) rfl (by kernel_rfl) (by kernel_rfl) (by kernel_rfl) (fun _ _ _ h => h) (Or.inl ⟨by rfl, ?hzdp20⟩) hHeld ?rstdp20
      case hzdp20 => (intro wS hSw; clear hSw; go_simp; try with_reducible rfl)
      simp only [Act.put, List.getElem_toArray, List.getElem_cons_zero, List.getElem_cons_succ, List.setIfInBounds_toArray, List.set_cons_zero, List.set_cons_succ]
      refine AU_done (by kernel_rfl) ?_ _
      simp only [OnlyN]
      obtain ⟨q0, q1, q2, q3, q4, q5, q6⟩ := hHeld.2.cells
      obtain ⟨cM, cM2⟩ := HM.out _ hHeld.1
      clear hHeld
      go_upto_region 10 with fail
      have hHCep := HC1.out
      refine region_AU (Z := fun j => j == 0 || j == 1 || j == 2 || j == 4 || j == 5 || j == 7 || j == 9 || j == 12 || j == 6) (S := fun Wz => CB Wz C ⟨k, h, o, n, a, z, Ad, l, c⟩) (by kernel_rfl) (hHCep.below (((Below.refl _ _).drew).drew)) (fun hHeld => ?_)
      clear hHCep q0 q1 q2 q3 q4 q5 q6 cM cM2
      refine AUP_take (i := 0) (oi := _) (v := ?vwep0) rfl rfl (by kernel_rfl) (by kernel_rfl) (by kernel_rfl) (fun _ _ _ h => h) (Or.inl ⟨by rfl, ?hzep0⟩) ?rstep0
      case hzep0 => (intro wS hSw; go_simp; try with_reducible rfl)
      simp only [Act.put, List.getElem_toArray, List.getElem_cons_zero, List.getElem_cons_succ, List.setIfInBounds_toArray, List.set_cons_zero, List.set_cons_succ]
      refine AUP_take (i := 1) (oi := _) (v := ?vwep1) rfl rfl (by kernel_rfl) (by kernel_rfl) (by kernel_rfl) (fun _ _ _ h => h) (Or.inl ⟨by rfl, ?hzep1⟩) ?rstep1
      case hzep1 => (intro wS hSw; go_simp; try with_reducible rfl)
      simp only [Act.put, List.getElem_toArray, List.getElem_cons_zero, List.getElem_cons_succ, List.setIfInBounds_toArray, List.set_cons_zero, List.set_cons_succ]
      refine AUP_take (i := 2) (oi := _) (v := ?vwep2) rfl rfl (by kernel_rfl) (by kernel_rfl) (by kernel_rfl) (fun _ _ _ h => h) (Or.inl ⟨by rfl, ?hzep2⟩) ?rstep2
      case hzep2 => (intro wS hSw; go_simp; try with_reducible rfl)
      simp only [Act.put, List.getElem_toArray, List.getElem_cons_zero, List.getElem_cons_succ, List.setIfInBounds_toArray, List.set_cons_zero, List.set_cons_succ]
      refine AUP_take (i := 4) (oi := _) (v := ?vwep4) rfl rfl (by kernel_rfl) (by kernel_rfl) (by kernel_rfl) (fun _ _ _ h => h) (Or.inl ⟨by rfl, ?hzep4⟩) ?rstep4
      case hzep4 => (intro wS hSw; go_simp; try with_reducible rfl)
      simp only [Act.put, List.getElem_toArray, List.getElem_cons_zero, List.getElem_cons_succ, List.setIfInBounds_toArray, List.set_cons_zero, List.set_cons_succ]
      refine AUP_take (i := 5) (oi := _) (v := ?vwep5) rfl rfl (by kernel_rfl) (by kernel_rfl) (by kernel_rfl) (fun _ _ _ h => h) (Or.inl ⟨by rfl, ?hzep5⟩) ?rstep5
      case hzep5 => (intro wS hSw; go_simp; try with_reducible rfl)
      simp only [Act.put, List.getElem_toArray, List.getElem_cons_zero, List.getElem_cons_succ, List.setIfInBounds_toArray, List.set_cons_zero, List.set_cons_succ]
      refine AUP_take (i := 7) (oi := _) (v := ?vwep7) rfl rfl (by kernel_rfl) (by kernel_rfl) (by kernel_rfl) (fun _ _ _ h => h) (Or.inl ⟨by rfl, ?hzep7⟩) ?rstep7
      case hzep7 => (intro wS hSw; go_simp; try with_reducible rfl)
      simp only [Act.put, List.getElem_toArray, List.getElem_cons_zero, List.getElem_cons_succ, List.setIfInBounds_toArray, List.set_cons_zero, List.set_cons_succ]
      refine AUP_take (i := 9) (oi := _) (v := ?vwep9) rfl rfl (by kernel_rfl) (by kernel_rfl) (by kernel_rfl) (fun _ _ _ h => h) (Or.inl ⟨by rfl, ?hzep9⟩) ?rstep9
      case hzep9 => (intro wS hSw; go_simp; try with_reducible rfl)
      simp only [Act.put, List.getElem_toArray, List.getElem_cons_zero, List.getElem_cons_succ, List.setIfInBounds_toArray, List.set_cons_zero, List.set_cons_succ]
      refine AUP_take (i := 12) (oi := _) (v := ?vwep12) rfl rfl (by kernel_rfl) (by kernel_rfl) (by kernel_rfl) (fun _ _ _ h => h) (Or.inl ⟨by rfl, ?hzep12⟩) ?rstep12
      case hzep12 => (intro wS hSw; go_simp; try with_reducible rfl)
      simp only [Act.put, List.getElem_toArray, List.getElem_cons_zero, List.getElem_cons_succ, List.setIfInBounds_toArray, List.set_cons_zero, List.set_cons_succ]
      refine AUP_take (i := 6) (oi := _) (v := ?vwep6) rfl rfl (by kernel_rfl) (by kernel_rfl) (by kernel_rfl) (fun _ _ _ h => h) (Or.inl ⟨by rfl, ?hzep6⟩) ?rstep6
      case hzep6 => (intro wS hSw; go_simp; try with_reducible rfl)
      simp only [Act.put, List.getElem_toArray, List.getElem_cons_zero, List.getElem_cons_succ, List.setIfInBounds_toArray, List.set_cons_zero, List.set_cons_succ]
      refine AUS_take (by kernel_rfl) rfl (i := 3) (oi := _) (v := ?vwep3) rfl (by kernel_rfl) (by kernel_rfl) (by kernel_rfl) (fun _ _ _ h => h) (Or.inl ⟨by rfl, ?hzep3⟩) hHeld ?rstep3
      case hzep3 => (intro wS hSw; obtain ⟨f0, f1, f2, f3, f4, f5, f6⟩ := hSw.cells; clear hSw; go_simp; try with_reducible rfl)
      simp only [Act.put, List.getElem_toArray, List.getElem_cons_zero, List.getElem_cons_succ, List.setIfInBounds_toArray, List.set_cons_zero, List.set_cons_succ]
      refine AUS_take (by kernel_rfl) rfl (i := 8) (oi := _) (v := ?vwep8) rfl (by kernel_rfl) (by kernel_rfl) (by kernel_rfl) (fun _ _ _ h => h) (Or.inl ⟨by rfl, ?hzep8⟩) hHeld ?rstep8
      case hzep8 => (intro wS hSw; obtain ⟨f0, f1, f2, f3, f4, f5, f6⟩ := hSw.cells; clear hSw; go_simp; try with_reducible rfl)
      simp only [Act.put, List.getElem_toArray, List.getElem_cons_zero, List.getElem_cons_succ, List.setIfInBounds_toArray, List.set_cons_zero, List.set_cons_succ]
      refine AUS_take (by kernel_rfl) rfl (i := 10) (oi := _) (v := ?vwep10) rfl (by kernel_rfl) (by kernel_rfl) (by kernel_rfl) (fun _ _ _ h => h) (Or.inl ⟨by rfl, ?hzep10⟩) hHeld ?rstep10
      case hzep10 => (intro wS hSw; obtain ⟨f0, f1, f2, f3, f4, f5, f6⟩ := hSw.cells; clear hSw; go_simp; try with_reducible rfl)
      simp only [Act.put, List.getElem_toArray, List.getElem_cons_zero, List.getElem_cons_succ, List.setIfInBounds_toArray, List.set_cons_zero, List.set_cons_succ]
      refine AU_one (i := 11) (o := _) (by kernel_rfl) rfl (fun K hK => ?_)
      go_simp
      refine (CP.out _ (((Below.refl _ _).drew).drew)).mono ?_
      rintro e w5 ⟨rfl, h5⟩
      have hB5 : Below W1.heap.size W1 w5 := (((Below.refl W1.heap.size W1).drew).drew).trans h5
      have S5 : CB w5 C ⟨k, h, o, n, a, z, Ad, l, c⟩ := HC1.out.below hB5
      have HB5 := Lib.hid hB5
      clear h5 hB5
      refine hK.out _ _ (fun _ => S5) ?_
      clear hK K
      try simp only [Act.put, List.getElem_toArray, List.getElem_cons_zero, List.getElem_cons_succ, List.setIfInBounds_toArray, List.set_cons_zero, List.set_cons_succ]
      refine AU_one (i := 13) (o := _) (by kernel_rfl) rfl (fun K hK => ?_)
      go_simp
      refine hK.out _ _ (fun _ => S5) ?_
      clear hK K
      try simp only [Act.put, List.getElem_toArray, List.getElem_cons_zero, List.getElem_cons_succ, List.setIfInBounds_toArray, List.set_cons_zero, List.set_cons_succ]
      refine AU_done (by kernel_rfl) ?_ _
      simp only [OnlyN]
      clear S5
      go_wp2_with fail
      go_ret
      exact ⟨rfl, HP.out _ HB5.out⟩
    · rw [hf1] at HCK
      rw [hf2] at HCW
      clear hf1 hf2
      go_upto_region 9 with fail
      have hHDdq := HMC.out
      refine region_AU (Z := fun j => j == 0 || j == 1 || j == 2 || j == 6 || j == 8 || j == 3) (S := fun Wz => Wz.heap[M]? = some (Obj.cells #[x 0, x 1] 30) ∧ CB Wz C ⟨k, h, o, n, a, z, Ad, l, c⟩) (by kernel_rfl) (⟨hHDdq.1, hHDdq.2⟩) (fun hHeld => ?_)
      clear hHDdq q0 q1 q2 q3 q4 q5 q6 cM eh e1 e2 e3
      refine AUP_take (i := 0) (oi := _) (v := ?vwdq0) rfl rfl (by kernel_rfl) (by kernel_rfl) (by kernel_rfl) (fun _ _ _ h => h) (Or.inl ⟨by rfl, ?hzdq0⟩) ?rstdq0
      case hzdq0 => (intro wS hSw; go_simp; try with_reducible rfl)
      simp only [Act.put, List.getElem_toArray, List.getElem_cons_zero, List.getElem_cons_succ, List.setIfInBounds_toArray, List.set_cons_zero, List.set_cons_succ]
      refine AUP_take (i := 1) (oi := _) (v := ?vwdq1) rfl rfl (by kernel_rfl) (by kernel_rfl) (by kernel_rfl) (fun _ _ _ h => h) (Or.inl ⟨by rfl, ?hzdq1⟩) ?rstdq1
      case hzdq1 => (intro wS hSw; go_simp; try with_reducible rfl)
      simp only [Act.put, List.getElem_toArray, List.getElem_cons_zero, List.getElem_cons_succ, List.setIfInBounds_toArray, List.set_cons_zero, List.set_cons_succ]
      refine AUP_take (i := 2) (oi := _) (v := ?vwdq2) rfl rfl (by kernel_rfl) (by kernel_rfl) (by kernel_rfl) (fun _ _ _ h => h) (Or.inl ⟨by rfl, ?hzdq2⟩) ?rstdq2
      case hzdq2 => (intro wS hSw; go_simp; try with_reducible rfl)
      simp only [Act.put, List.getElem_toArray, List.getElem_cons_zero, List.getElem_cons_succ, List.setIfInBounds_toArray, List.set_cons_zero, List.set_cons_succ]
      refine AUP_take (i := 6) (oi := _) (v := ?vwdq6) rfl rfl (by kernel_rfl) (by kernel_rfl) (by kernel_rfl) (fun _ _ _ h => h) (Or.inl ⟨by rfl, ?hzdq6⟩) ?rstdq6
      case hzdq6 => (intro wS hSw; go_simp; try with_reducible rfl)
      simp only [Act.put, List.getElem_toArray, List.getElem_cons_zero, List.getElem_cons_succ, List.setIfInBounds_toArray, List.set_cons_zero, List.set_cons_succ]
      refine AUP_take (i := 8) (oi := _) (v := ?vwdq8) rfl rfl (by kernel_rfl) (by kernel_rfl) (by kernel_rfl) (fun _ _ _ h => h) (Or.inl ⟨by rfl, ?hzdq8⟩) ?rstdq8
      case hzdq8 => (intro wS hSw; go_simp; try with_reducible rfl)
      simp only [Act.put, List.getElem_toArray, List.getElem_cons_zero, List.getElem_cons_succ, List.setIfInBounds_toArray, List.set_cons_zero, List.set_cons_succ]
      refine AUP_take (i := 3) (oi := _) (v := ?vwdq3) rfl rfl (by kernel_rfl) (by kernel_rfl) (by kernel_rfl) (fun _ _ _ h => h) (Or.inl ⟨by rfl, ?hzdq3⟩) ?rstdq3
      case hzdq3 => (intro wS hSw; go_simp; try with_reducible rfl)
      simp only [Act.put, List.getElem_toArray, List.getElem_cons_zero, List.getElem_cons_succ, List.setIfInBounds_toArray, List.set_cons_zero, List.set_cons_succ]
      refine AUS_take (by kernel_rfl) rfl (i := 4) (oi := _) (v := ?vwdq4) rfl (by kernel_rfl) (by kernel_rfl) (by kernel_rfl) (fun _ _ _ h => h) (Or.inl ⟨by rfl, ?hzdq4⟩) hHeld ?rstdq4
      case hzdq4 => (intro wS hSw; obtain ⟨y1, y2⟩ := HM.out _ hSw.1; clear hSw; go_simp; try with_reducible rfl)
      simp only [Act.put, List.getElem_toArray, List.getElem_cons_zero, List.getElem_cons_succ, List.setIfInBounds_toArray, List.set_cons_zero, List.set_cons_succ]
      refine AUS_take (by kernel_rfl) rfl (i := 5) (oi := _) (v := ?vwdq5) rfl (by kernel_rfl) (by kernel_rfl) (by kernel_rfl) (fun _ _ _ h => h) (Or.inl ⟨by rfl, ?hzdq5⟩) hHeld ?rstdq5
      case hzdq5 => (intro wS hSw; clear hSw; go_simp; try with_reducible rfl)
      simp only [Act.put, List.getElem_toArray, List.getElem_cons_zero, List.getElem_cons_succ, List.setIfInBounds_toArray, List.set_cons_zero, List.set_cons_succ]
      refine AUS_take (by kernel_rfl) rfl (i := 7) (oi := _) (v := ?vwdq7) rfl (by kernel_rfl) (by kernel_rfl) (by kernel_rfl) (fun _ _ _ h => h) (Or.inl ⟨by rfl, ?hzdq7⟩) hHeld ?rstdq7
      case hzdq7 => (intro wS hSw; obtain ⟨f0, f1, f2, f3, f4, f5, f6⟩ := hSw.2.cells; clear hSw; go_simp; try with_reducible rfl)
      simp only [Act.put, List.getElem_toArray, List.getElem_cons_zero, List.getElem_cons_succ, List.setIfInBounds_toArray, List.set_cons_zero, List.set_cons_succ]
      refine AUS_take (by kernel_rfl) rfl (i := 9) (oi := _) (v := ?vwdq9) rfl (by kernel_rfl) (by kernel_rfl) (by kernel_rfl) (fun _ _ _ h => h) (Or.inl ⟨by rfl, ?hzdq9⟩) hHeld ?rstdq9
      case hzdq9 => (intro wS hSw; obtain ⟨f0, f1, f2, f3, f4, f5, f6⟩ := hSw.2.cells; clear hSw; go_simp; try with_reducible rfl)
      simp only [Act.put, List.getElem_toArray, List.getElem_cons_zero, List.getElem_cons_succ, List.setIfInBounds_toArray, List.set_cons_zero, List.set_cons_succ]
      refine AU_one (i := 10) (o := _) (by kernel_rfl) rfl (fun K hK => ?_)
      go_simp
      refine (HCK.out _).mono ?_
      rintro e w4 ⟨rfl, rfl⟩
      refine hK.out _ _ (fun _ => hHeld) ?_
      clear hK K
      try simp only [Act.put, List.getElem_toArray, List.getElem_cons_zero, List.getElem_cons_succ, List.setIfInBounds_toArray, List.set_cons_zero, List.set_cons_succ]
      refine AUS_take (by kernel_rfl) rfl (i := 11) (oi := _) (v := ?vwdq11) rfl (by kernel_rfl) (by kernel_rfl) (by kernel_rfl) (fun _ _ _ h => h) (Or.inl ⟨by rfl, ?hzdq11⟩) hHeld ?rstdq11
      case hzdq11 => (intro wS hSw; clear hSw; go_simp; try with_reducible rfl)
      simp only [Act.put, List.getElem_toArray, List.getElem_cons_zero, List.getElem_cons_succ, List.setIfInBounds_toArray, List.set_cons_zero, List.set_cons_succ]
      refine AUS_take (by kernel_rfl) rfl (i := 12) (oi := _) (v := ?vwdq12) rfl (by kernel_rfl) (by kernel_rfl) (by kernel_rfl) (fun _ _ _ h => h) (Or.inl ⟨by rfl, ?hzdq12⟩) hHeld ?rstdq12
      case hzdq12 => (intro wS hSw; clear hSw; go_simp; try with_reducible rfl)
      simp only [Act.put, List.getElem_toArray, List.getElem_cons_zero, List.getElem_cons_succ, List.setIfInBounds_toArray, List.set_cons_zero, List.set_cons_succ]
      refine AUS_take (by kernel_rfl) rfl (i := 13) (oi := _) (v := ?vwdq13) rfl (by kernel_rfl) (by kernel_rfl) (by kernel_rfl) (fun _ _ _ h => h) (Or.inl ⟨by rfl, ?hzdq13⟩) hHeld ?rstdq13
      case hzdq13 => (intro wS hSw; clear hSw; go_simp; try with_reducible rfl)
      simp only [Act.put, List.getElem_toArray, List.getElem_cons_zero, List.getElem_cons_succ, List.setIfInBounds_toArray, List.set_cons_zero, List.set_cons_succ]
      refine AUS_take (by kernel_rfl) rfl (i := 14) (oi := _) (v := ?vwdq14) rfl (by kernel_rfl) (by kernel_rfl) (by kernel_rfl) (fun _ _ _ h => h) (Or.inl ⟨by rfl, ?hzdq14⟩) hHeld ?rstdq14
      case hzdq14 => (intro wS hSw; clear hSw; go_simp; try with_reducible rfl)
      simp only [Act.put, List.getElem_toArray, List.getElem_cons_zero, List.getElem_cons_succ, List.setIfInBounds_toArray, List.set_cons_zero, List.set_cons_succ]
      refine AUS_take (by kernel_rfl) rfl (i := 15) (oi := _) (v := ?vwdq15) rfl (by kernel_rfl) (by kernel_rfl) (by kernel_rfl) (fun _ _ _ h => h) (Or.inl ⟨by rfl, ?hzdq15⟩) hHeld ?rstdq15
      case hzdq15 => (intro wS hSw; obtain ⟨f0, f1, f2, f3, f4, f5, f6⟩ := hSw.2.cells; clear hSw; go_simp; try with_reducible rfl)
      simp only [Act.put, List.getElem_toArray, List.getElem_cons_zero, List.getElem_cons_succ, List.setIfInBounds_toArray, List.set_cons_zero, List.set_cons_succ]
      refine AUS_take (by kernel_rfl) rfl (i := 16) (oi := _) (v := ?vwdq16) rfl (by kernel_rfl) (by kernel_rfl) (by kernel_rfl) (fun _ _ _ h => h) (Or.inl ⟨by rfl, ?hzdq16⟩) hHeld ?rstdq16
      case hzdq16 => (intro wS hSw; clear hSw; go_simp; try with_reducible rfl)
      simp only [Act.put, List.getElem_toArray, List.getElem_cons_zero, List.getElem_cons_succ, List.setIfInBounds_toArray, List.set_cons_zero, List.set_cons_succ]
      refine AUS_take (by kernel_rfl) rfl (i := 17) (oi := _) (v := ?vwdq17) rfl (by kernel_rfl) (by kernel_rfl) (by kernel_rfl) (fun _ _ _ h => h) (Or.inl ⟨by rfl, ?hzdq17⟩) hHeld ?rstdq17
      case hzdq17 => (intro wS hSw; obtain ⟨f0, f1, f2, f3, f4, f5, f6⟩ := hSw.2.cells; clear hSw; go_simp; try with_reducible rfl)
      simp only [Act.put, List.getElem_toArray, List.getElem_cons_zero, List.getElem_cons_succ, List.setIfInBounds_toArray, List.set_cons_zero, List.set_cons_succ]
      refine AU_one (i := 18) (o := _) (by kernel_rfl) rfl (fun K hK => ?_)
      go_simp
      refine (HCW.out _).mono ?_
      rintro e w4 ⟨rfl, rfl⟩
      refine hK.out _ _ (fun _ => hHeld) ?_
      clear hK K
      try simp only [Act.put, List.getElem_toArray, List.getElem_cons_zero, List.getElem_cons_succ, List.setIfInBounds_toArray, List.set_cons_zero, List.set_cons_succ]
      refine AUS_take (by kernel_rfl) rfl (i := 19) (oi := _) (v := ?vwdq19) rfl (by kernel_rfl) (by kernel_rfl) (by kernel_rfl) (fun _ _ _ h => h) (Or.inl ⟨by rfl, ?hzdq19⟩) hHeld ?rstdq19
      case hzdq19 => (intro wS hSw; clear hSw; go_simp; try with_reducible rfl)
      simp only [Act.put, List.getElem_toArray, List.getElem_cons_zero, List.getElem_cons_succ, List.setIfInBounds_toArray, List.set_cons_zero, List.set_cons_succ]
      refine AUS_take (by kernel_rfl) rfl (i := 20) (oi := _) (v := ?vwdq20) rfl (by kernel_rfl) (by kernel_rfl) (by kernel_rfl) (fun _ _ _ h => h) (Or.inl ⟨by rfl, ?hzdq20⟩) hHeld ?rstdq20
      case hzdq20 => (intro wS hSw; clear hSw; go_simp; try with_reducible rfl)
      simp only [Act.put, List.getElem_toArray, List.getElem_cons_zero, List.getElem_cons_succ, List.setIfInBounds_toArray, List.set_cons_zero, List.set_cons_succ]
      refine AU_done (by kernel_rfl) ?_ _
      simp only [OnlyN]
      obtain ⟨q0, q1, q2, q3, q4, q5, q6⟩ := hHeld.2.cells
      obtain ⟨cM, cM2⟩ := HM.out _ hHeld.1
      clear hHeld
      go_upto_region 10 with fail
      have hHCeq := HC1.out
      refine region_AU (Z := fun j => j == 0 || j == 1 || j == 2 || j == 4 || j == 5 || j == 7 || j == 9 || j == 12 || j == 6) (S := fun Wz => CB Wz C ⟨k, h, o, n, a, z, Ad, l, c⟩) (by kernel_rfl) (hHCeq.below (((Below.refl _ _).drew).drew)) (fun hHeld => ?_)
      clear hHCeq q0 q1 q2 q3 q4 q5 q6 cM cM2
      refine AUP_take (i := 0) (oi := _) (v := ?vweq0) rfl rfl (by kernel_rfl) (by kernel_rfl) (by kernel_rfl) (fun _ _ _ h => h) (Or.inl ⟨by rfl, ?hzeq0⟩) ?rsteq0
      case hzeq0 => (intro wS hSw; go_simp; try with_reducible rfl)
      simp only [Act.put, List.getElem_toArray, List.getElem_cons_zero, List.getElem_cons_succ, List.setIfInBounds_toArray, List.set_cons_zero, List.set_cons_succ]
      refine AUP_take (i := 1) (oi := _) (v := ?vweq1) rfl rfl (by kernel_rfl) (by kernel_rfl) (by kernel_rfl) (fun _ _ _ h => h) (Or.inl ⟨by rfl, ?hzeq1⟩) ?rsteq1
      case hzeq1 => (intro wS hSw; go_simp; try with_reducible rfl)
      simp only [Act.put, List.getElem_toArray, List.getElem_cons_zero, List.getElem_cons_succ, List.setIfInBounds_toArray, List.set_cons_zero, List.set_cons_succ]
      refine AUP_take (i := 2) (oi := _) (v := ?vweq2) rfl rfl (by kernel_rfl) (by kernel_rfl) (by kernel_rfl) (fun _ _ _ h => h) (Or.inl ⟨by rfl, ?hzeq2⟩) ?rsteq2
      case hzeq2 => (intro wS hSw; go_simp; try with_reducible rfl)
      simp only [Act.put, List.getElem_toArray, List.getElem_cons_zero, List.getElem_cons_succ, List.setIfInBounds_toArray, List.set_cons_zero, List.set_cons_succ]
      refine AUP_take (i := 4) (oi := _) (v := ?vweq4) rfl rfl (by kernel_rfl) (by kernel_rfl) (by kernel_rfl) (fun _ _ _ h => h) (Or.inl ⟨by rfl, ?hzeq4⟩) ?rsteq4
      case hzeq4 => (intro wS hSw; go_simp; try with_reducible rfl)
      simp only [Act.put, List.getElem_toArray, List.getElem_cons_zero, List.getElem_cons_succ, List.setIfInBounds_toArray, List.set_cons_zero, List.set_cons_succ]
      refine AUP_take (i := 5) (oi := _) (v := ?vweq5) rfl rfl (by kernel_rfl) (by kernel_rfl) (by kernel_rfl) (fun _ _ _ h => h) (Or.inl ⟨by rfl, ?hzeq5⟩) ?rsteq5
      case hzeq5 => (intro wS hSw; go_simp; try with_reducible rfl)
      simp only [Act.put, List.getElem_toArray, List.getElem_cons_zero, List.getElem_cons_succ, List.setIfInBounds_toArray, List.set_cons_zero, List.set_cons_succ]
      refine AUP_take (i := 7) (oi := _) (v := ?vweq7) rfl rfl (by kernel_rfl) (by kernel_rfl) (by kernel_rfl) (fun _ _ _ h => h) (Or.inl ⟨by rfl, ?hzeq7⟩) ?rsteq7
      case hzeq7 => (intro wS hSw; go_simp; try with_reducible rfl)
      simp only [Act.put, List.getElem_toArray, List.getElem_cons_zero, List.getElem_cons_succ, List.setIfInBounds_toArray, List.set_cons_zero, List.set_cons_succ]
      refine AUP_take (i := 9) (oi := _) (v := ?vweq9) rfl rfl (by kernel_rfl) (by kernel_rfl) (by kernel_rfl) (fun _ _ _ h => h) (Or.inl ⟨by rfl, ?hzeq9⟩) ?rsteq9
      case hzeq9 => (intro wS hSw; go_simp; try with_reducible rfl)
      simp only [Act.put, List.getElem_toArray, List.getElem_cons_zero, List.getElem_cons_succ, List.setIfInBounds_toArray, List.set_cons_zero, List.set_cons_succ]
      refine AUP_take (i := 12) (oi := _) (v := ?vweq12) rfl rfl (by kernel_rfl) (by kernel_rfl) (by kernel_rfl) (fun _ _ _ h => h) (Or.inl ⟨by rfl, ?hzeq12⟩) ?rsteq12
      case hzeq12 => (intro wS hSw; go_simp; try with_reducible rfl)
      simp only [Act.put, List.getElem_toArray, List.getElem_cons_zero, List.getElem_cons_succ, List.setIfInBounds_toArray, List.set_cons_zero, List.set_cons_succ]
      refine AUP_take (i := 6) (oi := _) (v := ?vweq6) rfl rfl (by kernel_rfl) (by kernel_rfl) (by kernel_rfl) (fun _ _ _ h => h) (Or.inl ⟨by rfl, ?hzeq6⟩) ?rsteq6
      case hzeq6 => (intro wS hSw; go_simp; try with_reducible rfl)
      simp only [Act.put, List.getElem_toArray, List.getElem_cons_zero, List.getElem_cons_succ, List.setIfInBounds_toArray, List.set_cons_zero, List.set_cons_succ]
      refine AUS_take (by kernel_rfl) rfl (i := 3) (oi := _) (v := ?vweq3) rfl (by kernel_rfl) (by kernel_rfl) (by kernel_rfl) (fun _ _ _ h => h) (Or.inl ⟨by rfl, ?hzeq3⟩) hHeld ?rsteq3
      case hzeq3 => (intro wS hSw; obtain ⟨f0, f1, f2, f3, f4, f5, f6⟩ := hSw.cells; clear hSw; go_simp; try with_reducible rfl)
      simp only [Act.put, List.getElem_toArray, List.getElem_cons_zero, List.getElem_cons_succ, List.setIfInBounds_toArray, List.set_cons_zero, List.set_cons_succ]
      refine AUS_take (by kernel_rfl) rfl (i := 8) (oi := _) (v := ?vweq8) rfl (by kernel_rfl) (by kernel_rfl) (by kernel_rfl) (fun _ _ _ h => h) (Or.inl ⟨by rfl, ?hzeq8⟩) hHeld ?rsteq8
      case hzeq8 => (intro wS hSw; obtain ⟨f0, f1, f2, f3, f4, f5, f6⟩ := hSw.cells; clear hSw; go_simp; try with_reducible rfl)
      simp only [Act.put, List.getElem_toArray, List.getElem_cons_zero, List.getElem_cons_succ, List.setIfInBounds_toArray, List.set_cons_zero, List.set_cons_succ]
      refine AUS_take (by kernel_rfl) rfl (i := 10) (oi := _) (v := ?vweq10) rfl (by kernel_rfl) (by kernel_rfl) (by kernel_rfl) (fun _ _ _ h => h) (Or.inl ⟨by rfl, ?hzeq10⟩) hHeld ?rsteq10
      case hzeq10 => (intro wS hSw; obtain ⟨f0, f1, f2, f3, f4, f5, f6⟩ := hSw.cells; clear hSw; go_simp; try with_reducible rfl)
      simp only [Act.put, List.getElem_toArray, List.getElem_cons_zero, List.getElem_cons_succ, List.setIfInBounds_toArray, List.set_cons_zero, List.set_cons_succ]
      refine AU_one (i := 11) (o := _) (by kernel_rfl) rfl (fun K hK => ?_)
      go_simp
      refine (CP.out _ (((Below.refl _ _).drew).drew)).mono ?_
      rintro e w5 ⟨rfl, h5⟩
      have hB5 : Below W1.heap.size W1 w5 := (((Below.refl W1.heap.size W1).drew).drew).trans h5
      have S5 : CB w5 C ⟨k, h, o, n, a, z, Ad, l, c⟩ := HC1.out.below hB5
      have HB5 := Lib.hid hB5
      clear h5 hB5
      refine hK.out _ _ (fun _ => S5) ?_
      clear hK K
      try simp only [Act.put, List.getElem_toArray, List.getElem_cons_zero, List.getElem_cons_succ, List.setIfInBounds_toArray, List.set_cons_zero, List.set_cons_succ]
      refine AU_one (i := 13) (o := _) (by kernel_rfl) rfl (fun K hK => ?_)
      go_simp
      refine hK.out _ _ (fun _ => S5) ?_
      clear hK K
      try simp only [Act.put, List.getElem_toArray, List.getElem_cons_zero, List.getElem_cons_succ, List.setIfInBounds_toArray, List.set_cons_zero, List.set_cons_succ]
      refine AU_done (by kernel_rfl) ?_ _
      simp only [OnlyN]
      clear S5
      go_wp2_with fail
      go_ret
      exact ⟨rfl, HP.out _ HB5.out⟩
end Go.Proofs.Ytkpdgjmeeeddhaa
