/- BytesRuns: one call: Resize. -/
import Derived.Test.YtkpdgjmeeeddhaaCx
import Derived.Test.YtkpdgjmeeeddhaaVq
set_option linter.unusedVariables false
set_option linter.unusedSimpArgs false
namespace Go.Proofs.Ytkpdgjmeeeddhaa
open Go.RowKit
set_option linter.unusedVariables false
set_option linter.unusedSimpArgs false
variable {W w : World} {R B M : Nat} {os : List Nat} {ds : List (List Nat)} {fs : Nat → List Nat} {x : Nat → Value} {gs : Nat → Nat} {mc : Nat → List Nat}
set_option maxHeartbeats 4000000 in
set_option maxRecDepth 100000 in
theorem play_0 (y : Cl) (hy : y.ok W) (h300 : y.l ≤ 300) (hQ : QS W R B M os ds fs x gs mc w) (he : ∀ i, i < 2 → mc i = Sg.cont ds (fs i)) (t u : Int) (e1 : y.k.tmod 7 = t) (e2 : RowKit.wrap64 (t + 7) = u) (e3 : u.tmod 7 = 0) :
    Calls Try.prog 10 #[.pointer (some ⟨R, 0, none⟩), .slice (some ⟨B, 0, none⟩) 2 2, .slice (some ⟨M, 0, none⟩) 2 2, .agg y.cs.toArray] w fun e w' => e = .returned (.bool true) ∧ PI W R B M w' := by
  obtain ⟨i, eh, hi⟩ := and1' y.h
  have hq1 := hQ.below (below_alloc1 w (Obj.cells y.cs.toArray 32))
  have hcb : CB (w.alloc (Obj.cells y.cs.toArray 32)) w.heap.size y := heap_alloc_new _ _
  obtain ⟨hl64, hl16⟩ := hq1.len hi
  rw [← he i hi] at hl64
  obtain ⟨Ax, ex, hbr⟩ := (hq1.mr i hi).form
  obtain ⟨L, eL⟩ : ∃ L, (mc i).length = L := ⟨_, rfl⟩
  rw [eL] at ex hl64
  have hL : L ≤ 1024 := by omega
  obtain ⟨k, h, o, n, a, z, Ad, l, c⟩ := y
  obtain ⟨hk, hw, ho, hn, ha, hz, dat, hdl, hdc, hdr, hdb⟩ := hy
  simp only [] at h300
  have HL3 := Lib.hid h300
  clear h300
  simp only [Cl.cs] at hk hw ho hn ha hz hdl hdc hdr e1 eh hq1 hcb ⊢
  have hdr1 := hdr.below hq1.lw.1
  have hi2 : (i : Int) < 2 := by omega
  have HY := Lib.hid (And.intro ho (And.intro hn (And.intro ha (And.intro hz (And.intro hdl (And.intro hdc (And.intro hdr (And.intro hdb (And.intro hi (And.intro he (And.intro eL (And.intro hl64 hL))))))))))))
  have HQ := Lib.hid (And.intro hq1 hcb)
  have HEX := Lib.hid ex
  have HE := Lib.hid (And.intro eh (And.intro e1 (And.intro e2 e3)))
  clear eh e1 e2 e3
  clear hk hw ho hn ha hz hdl hdc hdr hdb hi he eL hl64 hL hq1 hcb hQ ex hbr hl16 hdr1
  go_enter Try.func10, Try.ntmps10
  go_upto_region 1 with fail
  obtain ⟨W1, eW1⟩ : ∃ W1, w.alloc (Obj.cells #[.int .i64 k, .int .i64 h, .int .i64 o, .int .i64 n, .int .i64 a, .int .u64 (z : Int), .slice Ad l c] 32) = W1 := ⟨_, rfl⟩
  obtain ⟨C, eC⟩ : ∃ C, w.heap.size = C := ⟨_, rfl⟩
  have HQ1 : Hid (QS W R B M os ds fs x gs mc W1 ∧ CB W1 C ⟨k, h, o, n, a, z, Ad, l, c⟩) := Lib.hid (by rw [← eW1, ← eC]; exact HQ.out)
  rw [eW1, eC]
  clear HQ eW1 eC
  obtain ⟨q0, q1, q2, q3, q4, q5, q6⟩ := HQ1.out.2.cells
  have cM := (HQ1.out.1.cellM HY.out.2.2.2.2.2.2.2.2.1).1
  rw [HEX.out] at cM
  obtain ⟨v, hsv0⟩ := HQ1.out.1.sv i HY.out.2.2.2.2.2.2.2.2.1
  have HSV := Lib.hid hsv0
  clear hsv0
  obtain ⟨ho, hn, ha, hz, hdl, hdc, hdr, hdb, hi, he, eL, hl64, hL⟩ := HY.out
  obtain ⟨S, hp, -⟩ := HQ1.out.1.lw.2
  obtain ⟨f, ef⟩ : ∃ f, (fs i).length = f := ⟨_, rfl⟩
  obtain ⟨q, eq⟩ : ∃ q, os.count 0 = q := ⟨_, rfl⟩
  have hq20 : q ≤ 20 := by have := HQ1.out.1.sum; omega
  have hf16 : f ≤ 16 := by omega
  obtain ⟨fq, efq⟩ : ∃ fq, f + q = fq := ⟨_, rfl⟩
  obtain ⟨i3, ei3⟩ : ∃ i3, i + 1 = i3 := ⟨_, rfl⟩
  have b1 : f ≤ 5000 := Nat.le_trans hf16 (by decide)
  have b2 : f + q ≤ 5000 := by omega
  have b3 : i + 1 ≤ 5000 := by omega
  have b4 : i3 ≤ 5000 := by omega
  have HCL := Lib.hid (fun zz => left_any (W1.drewN zz) (hp.below (w' := W1.drewN zz) ⟨rfl, rfl, rfl, Nat.le_refl _, fun _ _ => rfl⟩))
  rw [eq] at HCL
  by_cases hin : 0 ≤ n ∧ n ≤ 16 ∧ n ≤ (f : Int) + q
  · obtain ⟨m, rfl⟩ := Int.eq_ofNat_of_zero_le hin.1
    have l0 : (0 : Int) ≤ (m : Int) := by omega
    have l1 : (m : Int) ≤ 16 := by omega
    have l2 : (m : Int) ≤ (fq : Int) := by omega
    have HB := Lib.hid (And.intro hi (And.intro he (And.intro eL (And.intro hl64 (And.intro hL (And.intro ei3 (And.intro (show m ≤ 16 by omega) (show m ≤ f + q by omega))))))))
    have CR := Lib.hid (fun zz => resize_st (n := m) (HQ1.out.1.drewN zz).lw (HSV.out.below (w' := W1.drewN zz) ⟨rfl, rfl, rfl, Nat.le_refl _, fun _ _ => rfl⟩) (HQ1.out.1.ow i hi) HQ1.out.1.hB (by omega) (by omega) (by omega))
    rw [ei3] at CR
    have g1 := div_seg (hl64.trans (by rw [ef]))
    have g2 := w_nat b1
    have g2' := w_nat' b1
    obtain ⟨g3, g4⟩ := w_add b2 efq
    obtain ⟨g5, g6⟩ := w_add b3 ei3
    have g5' : RowKit.wrap64 ((i : Int) + 1) = (i3 : Int) := g5
    have g6' : IntKind.i64.wrap ((i : Int) + 1) = (i3 : Int) := g6
    have g7 := w_u64 b4
    clear g5 g6 b1 b2 b3 b4
    clear ho hn ha hz hdl hdc hdr hdb hi he eL hl64 hL hp ef eq hq20 hf16 efq ei3 hin HY
    obtain ⟨eh, e1, e2, e3⟩ := HE.out
    go_upto_region 15 with fail
    clear eh e1 e2 e3
    go_quiet ((go_at_call 15; exact Calls.quiet_of_same ((HCL.out _).mono fun e w' ⟨h1, h2⟩ => ⟨h1, h2.symm⟩)))
    clear g1 g2 g2' g3 g4 l0 l1 l2
    go_wp2_with fail
    refine (CR.out _).mono ?_
    rintro e w3 ⟨rfl, hz3⟩
    obtain ⟨hi, he, eL, hl64, hL, ei3, hm16, hmq⟩ := HB.out
    rw [← ei3] at hz3
    obtain ⟨csB, hcB⟩ := HSV.out.h
    have hkeep := RZd.keep (w := W1.drewN _) hz3 hcB
    obtain ⟨os', ds', f', hQ3, hf', hc3, hc3o⟩ := (HQ1.out.1.drewN _).rzd hi hz3
    have hC3 : CB w3 C ⟨k, h, o, m, a, z, Ad, l, c⟩ := (hkeep C _ _ HQ1.out.2 (by decide) (by decide) (by decide)).trans HQ1.out.2
    clear q0 q1 q2 q3 q4 q5 q6 cM
    obtain ⟨m6, em6⟩ : ∃ m6, 64 * m = m6 := ⟨_, rfl⟩
    obtain ⟨lc, elc⟩ : ∃ lc, min (mc i).length m6 = lc := ⟨_, rfl⟩
    obtain ⟨hrs, hrl⟩ := lay_rsz em6 elc
    have hm61 : m6 ≤ 1024 := by omega
    have hmk := run_bytes w3 m6 (by omega)
    have b4 := below_alloc1 w3 (Obj.cells (Y (List.replicate m6 0)).toArray 5)
    have hnew := heap_alloc_new w3 (Obj.cells (Y (List.replicate m6 0)).toArray 5)
    have hQ4 := hQ3.below b4
    have hC4 := hC3.below b4
    obtain ⟨W4, eW4⟩ : ∃ W4, w3.alloc (Obj.cells (Y (List.replicate m6 0)).toArray 5) = W4 := ⟨_, rfl⟩
    rw [eW4] at hmk b4 hnew hQ4 hC4
    obtain ⟨Ay, ey, hry⟩ := (hQ4.mr i hi).form
    rw [HEX.out, eL] at ey
    injection ey with ey
    subst ey
    have hlcL : min L m6 = lc := by rw [← eL]; exact elc
    obtain ⟨W5, hcopy, hw5, hT5⟩ := copy_any W4 3 5 w3.heap.size 0 m6 m6 L L lc Ax (Y (List.replicate m6 0)) ((mc i).take lc) hnew (by rw [List.length_take]; omega) hlcL (.inr (by rw [Y_len, List.length_replicate]; omega)) (br_take hry lc)
    have e8 : (if lc = 0 then Y (List.replicate m6 0) else splice (Y (List.replicate m6 0)) 0 (Y ((mc i).take lc))) = Y (Sg.rsz (mc i) m) := by
      rw [← hrs, ← y_splice]
      by_cases h0 : lc = 0
      · rw [if_pos h0, h0, List.take_zero]; unfold splice Y; simp
      · rw [if_neg h0]
    rw [e8] at hw5
    have hb5 : Below w3.heap.size w3 W5 := b4.trans (hT5.below b4.size (by intro y hy; rw [List.mem_singleton.1 hy]; exact Nat.le_refl _))
    have hQ5 := hQ3.below hb5
    have hC5 := hC3.below hb5
    have hP5 := hQ5.put hi hw5 hQ3.lw.1.size (fun j hj e => by have := hQ3.gl j hj; omega)
    rw [hrl] at hP5
    have hcM5 := hQ5.cellM hi
    rw [HEX.out] at hcM5
    have HP : Hid (PI W R B M (W5.setCell ⟨M, i, none⟩ (.slice (some ⟨w3.heap.size, 0, none⟩) m6 m6))) := Lib.hid ⟨_, _, _, _, _, _, hP5, fun j hj => by
      by_cases e : j = i
      · subst e; rw [up_same, up_same, hc3, he j hi]
      · rw [up_other _ _ e, up_other _ _ e, hc3o j hj e]; exact he j hj⟩
    have HC := Lib.hid hcopy
    have HW4 := Lib.hid eW4
    obtain ⟨g8, g9⟩ := w_mul hm16 em6
    obtain ⟨p0, p1, p2, p3, p4, p5, p6⟩ := hC3.cells
    have cM := (hQ4.cellM hi).1
    rw [HEX.out] at cM
    obtain ⟨q0, q1, q2, q3, q4, q5, q6⟩ := hC4.cells
    obtain ⟨r0, r1, r2, r3, r4, r5, r6⟩ := hC5.cells
    obtain ⟨s0, s1⟩ := hcM5
    have m60 : (0 : Int) ≤ (m6 : Int) := Int.natCast_nonneg _
    clear hi he eL hl64 hL ei3 hm16 hmq hz3 hQ3 hf' hc3 hc3o hkeep hcB hC3 em6 elc hrs hrl b4 hnew hQ4 hC4 hry hlcL hw5 hT5 e8 hb5 hQ5 hC5 hP5 hcopy eW4 hm61 HB CR HQ1 HSV g5' g6' g7
    go_wp2_with (first | (refine wpList_copy_by rfl (.tmp 152) (.tmp 156) 30 30 rfl (.slice (some ⟨w3.heap.size, 0, none⟩) m6 m6) (.slice Ax L L) _ rfl rfl W5 HC.out ?_))
    go_ret
    exact ⟨rfl, HP.out⟩
  · have CR := Lib.hid (fun zz => resize_no (x := (i3 : Int)) (n := n) (HSV.out.below (w' := W1.drewN zz) ⟨rfl, rfl, rfl, Nat.le_refl _, fun _ _ => rfl⟩) (hp.below (w' := W1.drewN zz) ⟨rfl, rfl, rfl, Nat.le_refl _, fun _ _ => rfl⟩) hn.2 (fun hh => hin ⟨hh.1, hh.2.1, by rw [ef, eq] at hh; have := hh.2.2.2; omega⟩))
    have HP := Lib.hid (fun z => show PI W R B M (W1.drewN z) from ⟨_, _, _, _, _, _, HQ1.out.1.drewN z, he⟩)
    have HC1 := Lib.hid HQ1.out.2
    have g1 := div_seg (hl64.trans (by rw [ef]))
    have g2 := w_nat b1
    have g2' := w_nat' b1
    have hin2 : ¬ (0 ≤ n ∧ n ≤ 16 ∧ n ≤ (fq : Int)) := fun hh => hin ⟨hh.1, hh.2.1, by omega⟩
    obtain ⟨g3, g4⟩ := w_add b2 efq
    obtain ⟨g5, g6⟩ := w_add b3 ei3
    have g5' : RowKit.wrap64 ((i : Int) + 1) = (i3 : Int) := g5
    have g6' : IntKind.i64.wrap ((i : Int) + 1) = (i3 : Int) := g6
    have g7 := w_u64 b4
    clear g5 g6 b1 b2 b3 b4 ho hn ha hz hdl hdc hdr hdb hi he eL hl64 hL hp ef eq hq20 hf16 efq ei3 hin HY HQ1 HSV
    by_cases l0 : 0 ≤ n
    · by_cases l1 : n ≤ 16
      · have l2 : ¬ n ≤ (fq : Int) := fun h => hin2 ⟨l0, l1, h⟩
        clear hin2
        obtain ⟨eh, e1, e2, e3⟩ := HE.out
        go_upto_region 15 with fail
        clear eh e1 e2 e3
        go_quiet ((go_at_call 15; exact Calls.quiet_of_same ((HCL.out _).mono fun e w' ⟨h1, h2⟩ => ⟨h1, h2.symm⟩)))
        go_wp2_with fail
        refine (CR.out _).mono ?_
        rintro e w3 ⟨rfl, rfl⟩
        go_wp2_with fail
        go_ret
        exact ⟨rfl, HP.out _⟩
      · clear hin2
        obtain ⟨eh, e1, e2, e3⟩ := HE.out
        go_upto_region 15 with fail
        clear eh e1 e2 e3
        have hHC := HC1.out
        refine region_AU (Z := fun j => j == 0) (S := fun Wz => CB Wz C ⟨k, h, o, n, a, z, Ad, l, c⟩) (by kernel_rfl) (hHC.below ((Below.refl _ _).drew)) (fun hHeld => ?_)
        clear hHC q0 q1 q2 q3 q4 q5 q6 cM
        refine AUP_take (i := 0) (oi := _) (v := ?vwa0) rfl rfl (by kernel_rfl) (by kernel_rfl) (by kernel_rfl) (fun _ _ _ h => h) (Or.inl ⟨by rfl, ?hza0⟩) ?rsta0
        case hza0 => (intro wS hSw; go_simp; try with_reducible rfl)
        simp only [Act.put, List.getElem_toArray, List.getElem_cons_zero, List.getElem_cons_succ, List.setIfInBounds_toArray, List.set_cons_zero, List.set_cons_succ]
        refine AUS_take (by kernel_rfl) rfl (i := 1) (oi := _) (v := ?vwa1) rfl (by kernel_rfl) (by kernel_rfl) (by kernel_rfl) (fun _ _ _ h => h) (Or.inl ⟨by rfl, ?hza1⟩) hHeld ?rsta1
        case hza1 => (intro wS hSw; obtain ⟨f0, f1, f2, f3, f4, f5, f6⟩ := hSw.cells; clear hSw; go_simp; try with_reducible rfl)
        simp only [Act.put, List.getElem_toArray, List.getElem_cons_zero, List.getElem_cons_succ, List.setIfInBounds_toArray, List.set_cons_zero, List.set_cons_succ]
        refine AUS_take (by kernel_rfl) rfl (i := 2) (oi := _) (v := ?vwa2) rfl (by kernel_rfl) (by kernel_rfl) (by kernel_rfl) (fun _ _ _ h => h) (Or.inl ⟨by rfl, ?hza2⟩) hHeld ?rsta2
        case hza2 => (intro wS hSw; clear hSw; go_simp; try with_reducible rfl)
        simp only [Act.put, List.getElem_toArray, List.getElem_cons_zero, List.getElem_cons_succ, List.setIfInBounds_toArray, List.set_cons_zero, List.set_cons_succ]
        refine AUS_take (by kernel_rfl) rfl (i := 3) (oi := _) (v := ?vwa3) rfl (by kernel_rfl) (by kernel_rfl) (by kernel_rfl) (fun _ _ _ h => h) (Or.inl ⟨by rfl, ?hza3⟩) hHeld ?rsta3
        case hza3 => (intro wS hSw; clear hSw; go_simp; try with_reducible rfl)
        simp only [Act.put, List.getElem_toArray, List.getElem_cons_zero, List.getElem_cons_succ, List.setIfInBounds_toArray, List.set_cons_zero, List.set_cons_succ]
        refine AUS_take (by kernel_rfl) rfl (i := 4) (oi := _) (v := ?vwa4) rfl (by kernel_rfl) (by kernel_rfl) (by kernel_rfl) (fun _ _ _ h => h) (Or.inl ⟨by rfl, ?hza4⟩) hHeld ?rsta4
        case hza4 => (intro wS hSw; clear hSw; go_simp; try with_reducible rfl)
        simp only [Act.put, List.getElem_toArray, List.getElem_cons_zero, List.getElem_cons_succ, List.setIfInBounds_toArray, List.set_cons_zero, List.set_cons_succ]
        refine AUS_take (by kernel_rfl) rfl (i := 5) (oi := _) (v := ?vwa5) rfl (by kernel_rfl) (by kernel_rfl) (by kernel_rfl) (fun _ _ _ h => h) (Or.inl ⟨by rfl, ?hza5⟩) hHeld ?rsta5
        case hza5 => (intro wS hSw; obtain ⟨f0, f1, f2, f3, f4, f5, f6⟩ := hSw.cells; clear hSw; go_simp; try with_reducible rfl)
        simp only [Act.put, List.getElem_toArray, List.getElem_cons_zero, List.getElem_cons_succ, List.setIfInBounds_toArray, List.set_cons_zero, List.set_cons_succ]
        refine AUS_take (by kernel_rfl) rfl (i := 6) (oi := _) (v := ?vwa6) rfl (by kernel_rfl) (by kernel_rfl) (by kernel_rfl) (fun _ _ _ h => h) (Or.inl ⟨by rfl, ?hza6⟩) hHeld ?rsta6
        case hza6 => (intro wS hSw; clear hSw; go_simp; try with_reducible rfl)
        simp only [Act.put, List.getElem_toArray, List.getElem_cons_zero, List.getElem_cons_succ, List.setIfInBounds_toArray, List.set_cons_zero, List.set_cons_succ]
        refine AUS_take (by kernel_rfl) rfl (i := 7) (oi := _) (v := ?vwa7) rfl (by kernel_rfl) (by kernel_rfl) (by kernel_rfl) (fun _ _ _ h => h) (Or.inl ⟨by rfl, ?hza7⟩) hHeld ?rsta7
        case hza7 => (intro wS hSw; clear hSw; go_simp; try with_reducible rfl)
        simp only [Act.put, List.getElem_toArray, List.getElem_cons_zero, List.getElem_cons_succ, List.setIfInBounds_toArray, List.set_cons_zero, List.set_cons_succ]
        refine AUS_take (by kernel_rfl) rfl (i := 8) (oi := _) (v := ?vwa8) rfl (by kernel_rfl) (by kernel_rfl) (by kernel_rfl) (fun _ _ _ h => h) (Or.inl ⟨by rfl, ?hza8⟩) hHeld ?rsta8
        case hza8 => (intro wS hSw; clear hSw; go_simp; try with_reducible rfl)
        simp only [Act.put, List.getElem_toArray, List.getElem_cons_zero, List.getElem_cons_succ, List.setIfInBounds_toArray, List.set_cons_zero, List.set_cons_succ]
        refine AUS_take (by kernel_rfl) rfl (i := 9) (oi := _) (v := undef) rfl (by kernel_rfl) (by kernel_rfl) (by kernel_rfl) (fun _ _ _ h => h) (Or.inr ⟨by rfl, rfl⟩) hHeld ?rsta9
        try simp only [Act.put, List.getElem_toArray, List.getElem_cons_zero, List.getElem_cons_succ, List.setIfInBounds_toArray, List.set_cons_zero, List.set_cons_succ]
        refine AUS_take (by kernel_rfl) rfl (i := 10) (oi := _) (v := undef) rfl (by kernel_rfl) (by kernel_rfl) (by kernel_rfl) (fun _ _ _ h => h) (Or.inr ⟨by rfl, rfl⟩) hHeld ?rsta10
        try simp only [Act.put, List.getElem_toArray, List.getElem_cons_zero, List.getElem_cons_succ, List.setIfInBounds_toArray, List.set_cons_zero, List.set_cons_succ]
        refine AUS_take (by kernel_rfl) rfl (i := 11) (oi := _) (v := undef) rfl (by kernel_rfl) (by kernel_rfl) (by kernel_rfl) (fun _ _ _ h => h) (Or.inr ⟨by rfl, rfl⟩) hHeld ?rsta11
        try simp only [Act.put, List.getElem_toArray, List.getElem_cons_zero, List.getElem_cons_succ, List.setIfInBounds_toArray, List.set_cons_zero, List.set_cons_succ]
        refine AUS_take (by kernel_rfl) rfl (i := 12) (oi := _) (v := undef) rfl (by kernel_rfl) (by kernel_rfl) (by kernel_rfl) (fun _ _ _ h => h) (Or.inr ⟨by rfl, rfl⟩) hHeld ?rsta12
        try simp only [Act.put, List.getElem_toArray, List.getElem_cons_zero, List.getElem_cons_succ, List.setIfInBounds_toArray, List.set_cons_zero, List.set_cons_succ]
        refine AUS_take (by kernel_rfl) rfl (i := 13) (oi := _) (v := undef) rfl (by kernel_rfl) (by kernel_rfl) (by kernel_rfl) (fun _ _ _ h => h) (Or.inr ⟨by rfl, rfl⟩) hHeld ?rsta13
        try simp only [Act.put, List.getElem_toArray, List.getElem_cons_zero, List.getElem_cons_succ, List.setIfInBounds_toArray, List.set_cons_zero, List.set_cons_succ]
        refine AUS_take (by kernel_rfl) rfl (i := 14) (oi := _) (v := undef) rfl (by kernel_rfl) (by kernel_rfl) (by kernel_rfl) (fun _ _ _ h => h) (Or.inr ⟨by rfl, rfl⟩) hHeld ?rsta14
        try simp only [Act.put, List.getElem_toArray, List.getElem_cons_zero, List.getElem_cons_succ, List.setIfInBounds_toArray, List.set_cons_zero, List.set_cons_succ]
        refine AUS_take (by kernel_rfl) rfl (i := 15) (oi := _) (v := undef) rfl (by kernel_rfl) (by kernel_rfl) (by kernel_rfl) (fun _ _ _ h => h) (Or.inr ⟨by rfl, rfl⟩) hHeld ?rsta15
        try simp only [Act.put, List.getElem_toArray, List.getElem_cons_zero, List.getElem_cons_succ, List.setIfInBounds_toArray, List.set_cons_zero, List.set_cons_succ]
        refine AUS_take (by kernel_rfl) rfl (i := 16) (oi := _) (v := undef) rfl (by kernel_rfl) (by kernel_rfl) (by kernel_rfl) (fun _ _ _ h => h) (Or.inr ⟨by rfl, rfl⟩) hHeld ?rsta16
        try simp only [Act.put, List.getElem_toArray, List.getElem_cons_zero, List.getElem_cons_succ, List.setIfInBounds_toArray, List.set_cons_zero, List.set_cons_succ]
        refine AUS_take (by kernel_rfl) rfl (i := 17) (oi := _) (v := ?vwa17) rfl (by kernel_rfl) (by kernel_rfl) (by kernel_rfl) (fun _ _ _ h => h) (Or.inl ⟨by rfl, ?hza17⟩) hHeld ?rsta17
        case hza17 => (intro wS hSw; clear hSw; go_simp; try with_reducible rfl)
        simp only [Act.put, List.getElem_toArray, List.getElem_cons_zero, List.getElem_cons_succ, List.setIfInBounds_toArray, List.set_cons_zero, List.set_cons_succ]
        refine AUS_take (by kernel_rfl) rfl (i := 18) (oi := _) (v := ?vwa18) rfl (by kernel_rfl) (by kernel_rfl) (by kernel_rfl) (fun _ _ _ h => h) (Or.inl ⟨by rfl, ?hza18⟩) hHeld ?rsta18
        case hza18 => (intro wS hSw; clear hSw; go_simp; try with_reducible rfl)
        simp only [Act.put, List.getElem_toArray, List.getElem_cons_zero, List.getElem_cons_succ, List.setIfInBounds_toArray, List.set_cons_zero, List.set_cons_succ]
        refine AU_done (by kernel_rfl) ?_ _
        simp only [OnlyN]
        obtain ⟨q0, q1, q2, q3, q4, q5, q6⟩ := hHeld.cells
        go_wp2_with fail
        refine (CR.out 1).mono ?_
        rintro e w3 ⟨rfl, rfl⟩
        go_wp2_with fail
        go_ret
        exact ⟨rfl, HP.out 1⟩
    · clear hin2
      obtain ⟨eh, e1, e2, e3⟩ := HE.out
      go_upto_region 15 with fail
      clear eh e1 e2 e3
      have hHC := HC1.out
      refine region_AU (Z := fun j => j == 0) (S := fun Wz => CB Wz C ⟨k, h, o, n, a, z, Ad, l, c⟩) (by kernel_rfl) (hHC.below ((Below.refl _ _).drew)) (fun hHeld => ?_)
      clear hHC q0 q1 q2 q3 q4 q5 q6 cM
      refine AUP_take (i := 0) (oi := _) (v := ?vwb0) rfl rfl (by kernel_rfl) (by kernel_rfl) (by kernel_rfl) (fun _ _ _ h => h) (Or.inl ⟨by rfl, ?hzb0⟩) ?rstb0
      case hzb0 => (intro wS hSw; go_simp; try with_reducible rfl)
      simp only [Act.put, List.getElem_toArray, List.getElem_cons_zero, List.getElem_cons_succ, List.setIfInBounds_toArray, List.set_cons_zero, List.set_cons_succ]
      refine AUS_take (by kernel_rfl) rfl (i := 1) (oi := _) (v := ?vwb1) rfl (by kernel_rfl) (by kernel_rfl) (by kernel_rfl) (fun _ _ _ h => h) (Or.inl ⟨by rfl, ?hzb1⟩) hHeld ?rstb1
      case hzb1 => (intro wS hSw; obtain ⟨f0, f1, f2, f3, f4, f5, f6⟩ := hSw.cells; clear hSw; go_simp; try with_reducible rfl)
      simp only [Act.put, List.getElem_toArray, List.getElem_cons_zero, List.getElem_cons_succ, List.setIfInBounds_toArray, List.set_cons_zero, List.set_cons_succ]
      refine AUS_take (by kernel_rfl) rfl (i := 2) (oi := _) (v := ?vwb2) rfl (by kernel_rfl) (by kernel_rfl) (by kernel_rfl) (fun _ _ _ h => h) (Or.inl ⟨by rfl, ?hzb2⟩) hHeld ?rstb2
      case hzb2 => (intro wS hSw; clear hSw; go_simp; try with_reducible rfl)
      simp only [Act.put, List.getElem_toArray, List.getElem_cons_zero, List.getElem_cons_succ, List.setIfInBounds_toArray, List.set_cons_zero, List.set_cons_succ]
      refine AUS_take (by kernel_rfl) rfl (i := 3) (oi := _) (v := ?vwb3) rfl (by kernel_rfl) (by kernel_rfl) (by kernel_rfl) (fun _ _ _ h => h) (Or.inl ⟨by rfl, ?hzb3⟩) hHeld ?rstb3
      case hzb3 => (intro wS hSw; clear hSw; go_simp; try with_reducible rfl)
      simp only [Act.put, List.getElem_toArray, List.getElem_cons_zero, List.getElem_cons_succ, List.setIfInBounds_toArray, List.set_cons_zero, List.set_cons_succ]
      refine AUS_take (by kernel_rfl) rfl (i := 4) (oi := _) (v := undef) rfl (by kernel_rfl) (by kernel_rfl) (by kernel_rfl) (fun _ _ _ h => h) (Or.inr ⟨by rfl, rfl⟩) hHeld ?rstb4
      try simp only [Act.put, List.getElem_toArray, List.getElem_cons_zero, List.getElem_cons_succ, List.setIfInBounds_toArray, List.set_cons_zero, List.set_cons_succ]
      refine AUS_take (by kernel_rfl) rfl (i := 5) (oi := _) (v := undef) rfl (by kernel_rfl) (by kernel_rfl) (by kernel_rfl) (fun _ _ _ h => h) (Or.inr ⟨by rfl, rfl⟩) hHeld ?rstb5
      try simp only [Act.put, List.getElem_toArray, List.getElem_cons_zero, List.getElem_cons_succ, List.setIfInBounds_toArray, List.set_cons_zero, List.set_cons_succ]
      refine AUS_take (by kernel_rfl) rfl (i := 6) (oi := _) (v := undef) rfl (by kernel_rfl) (by kernel_rfl) (by kernel_rfl) (fun _ _ _ h => h) (Or.inr ⟨by rfl, rfl⟩) hHeld ?rstb6
      try simp only [Act.put, List.getElem_toArray, List.getElem_cons_zero, List.getElem_cons_succ, List.setIfInBounds_toArray, List.set_cons_zero, List.set_cons_succ]
      refine AUS_take (by kernel_rfl) rfl (i := 7) (oi := _) (v := ?vwb7) rfl (by kernel_rfl) (by kernel_rfl) (by kernel_rfl) (fun _ _ _ h => h) (Or.inl ⟨by rfl, ?hzb7⟩) hHeld ?rstb7
      case hzb7 => (intro wS hSw; clear hSw; go_simp; try with_reducible rfl)
      simp only [Act.put, List.getElem_toArray, List.getElem_cons_zero, List.getElem_cons_succ, List.setIfInBounds_toArray, List.set_cons_zero, List.set_cons_succ]
      refine AUS_take (by kernel_rfl) rfl (i := 8) (oi := _) (v := ?vwb8) rfl (by kernel_rfl) (by kernel_rfl) (by kernel_rfl) (fun _ _ _ h => h) (Or.inl ⟨by rfl, ?hzb8⟩) hHeld ?rstb8
      case hzb8 => (intro wS hSw; clear hSw; go_simp; try with_reducible rfl)
      simp only [Act.put, List.getElem_toArray, List.getElem_cons_zero, List.getElem_cons_succ, List.setIfInBounds_toArray, List.set_cons_zero, List.set_cons_succ]
      refine AUS_take (by kernel_rfl) rfl (i := 9) (oi := _) (v := undef) rfl (by kernel_rfl) (by kernel_rfl) (by kernel_rfl) (fun _ _ _ h => h) (Or.inr ⟨by rfl, rfl⟩) hHeld ?rstb9
      try simp only [Act.put, List.getElem_toArray, List.getElem_cons_zero, List.getElem_cons_succ, List.setIfInBounds_toArray, List.set_cons_zero, List.set_cons_succ]
      refine AUS_take (by kernel_rfl) rfl (i := 10) (oi := _) (v := undef) rfl (by kernel_rfl) (by kernel_rfl) (by kernel_rfl) (fun _ _ _ h => h) (Or.inr ⟨by rfl, rfl⟩) hHeld ?rstb10
      try simp only [Act.put, List.getElem_toArray, List.getElem_cons_zero, List.getElem_cons_succ, List.setIfInBounds_toArray, List.set_cons_zero, List.set_cons_succ]
      refine AUS_take (by kernel_rfl) rfl (i := 11) (oi := _) (v := undef) rfl (by kernel_rfl) (by kernel_rfl) (by kernel_rfl) (fun _ _ _ h => h) (Or.inr ⟨by rfl, rfl⟩) hHeld ?rstb11
      try simp only [Act.put, List.getElem_toArray, List.getElem_cons_zero, List.getElem_cons_succ, List.setIfInBounds_toArray, List.set_cons_zero, List.set_cons_succ]
      refine AUS_take (by kernel_rfl) rfl (i := 12) (oi := _) (v := undef) rfl (by kernel_rfl) (by kernel_rfl) (by kernel_rfl) (fun _ _ _ h => h) (Or.inr ⟨by rfl, rfl⟩) hHeld ?rstb12
      try simp only [Act.put, List.getElem_toArray, List.getElem_cons_zero, List.getElem_cons_succ, List.setIfInBounds_toArray, List.set_cons_zero, List.set_cons_succ]
      refine AUS_take (by kernel_rfl) rfl (i := 13) (oi := _) (v := undef) rfl (by kernel_rfl) (by kernel_rfl) (by kernel_rfl) (fun _ _ _ h => h) (Or.inr ⟨by rfl, rfl⟩) hHeld ?rstb13
      try simp only [Act.put, List.getElem_toArray, List.getElem_cons_zero, List.getElem_cons_succ, List.setIfInBounds_toArray, List.set_cons_zero, List.set_cons_succ]
      refine AUS_take (by kernel_rfl) rfl (i := 14) (oi := _) (v := undef) rfl (by kernel_rfl) (by kernel_rfl) (by kernel_rfl) (fun _ _ _ h => h) (Or.inr ⟨by rfl, rfl⟩) hHeld ?rstb14
      try simp only [Act.put, List.getElem_toArray, List.getElem_cons_zero, List.getElem_cons_succ, List.setIfInBounds_toArray, List.set_cons_zero, List.set_cons_succ]
      refine AUS_take (by kernel_rfl) rfl (i := 15) (oi := _) (v := undef) rfl (by kernel_rfl) (by kernel_rfl) (by kernel_rfl) (fun _ _ _ h => h) (Or.inr ⟨by rfl, rfl⟩) hHeld ?rstb15
      try simp only [Act.put, List.getElem_toArray, List.getElem_cons_zero, List.getElem_cons_succ, List.setIfInBounds_toArray, List.set_cons_zero, List.set_cons_succ]
      refine AUS_take (by kernel_rfl) rfl (i := 16) (oi := _) (v := undef) rfl (by kernel_rfl) (by kernel_rfl) (by kernel_rfl) (fun _ _ _ h => h) (Or.inr ⟨by rfl, rfl⟩) hHeld ?rstb16
      try simp only [Act.put, List.getElem_toArray, List.getElem_cons_zero, List.getElem_cons_succ, List.setIfInBounds_toArray, List.set_cons_zero, List.set_cons_succ]
      refine AUS_take (by kernel_rfl) rfl (i := 17) (oi := _) (v := ?vwb17) rfl (by kernel_rfl) (by kernel_rfl) (by kernel_rfl) (fun _ _ _ h => h) (Or.inl ⟨by rfl, ?hzb17⟩) hHeld ?rstb17
      case hzb17 => (intro wS hSw; clear hSw; go_simp; try with_reducible rfl)
      simp only [Act.put, List.getElem_toArray, List.getElem_cons_zero, List.getElem_cons_succ, List.setIfInBounds_toArray, List.set_cons_zero, List.set_cons_succ]
      refine AUS_take (by kernel_rfl) rfl (i := 18) (oi := _) (v := ?vwb18) rfl (by kernel_rfl) (by kernel_rfl) (by kernel_rfl) (fun _ _ _ h => h) (Or.inl ⟨by rfl, ?hzb18⟩) hHeld ?rstb18
      case hzb18 => (intro wS hSw; clear hSw; go_simp; try with_reducible rfl)
      simp only [Act.put, List.getElem_toArray, List.getElem_cons_zero, List.getElem_cons_succ, List.setIfInBounds_toArray, List.set_cons_zero, List.set_cons_succ]
      refine AU_done (by kernel_rfl) ?_ _
      simp only [OnlyN]
      obtain ⟨q0, q1, q2, q3, q4, q5, q6⟩ := hHeld.cells
      go_wp2_with fail
      refine (CR.out 1).mono ?_
      rintro e w3 ⟨rfl, rfl⟩
      go_wp2_with fail
      go_ret
      exact ⟨rfl, HP.out 1⟩
end Go.Proofs.Ytkpdgjmeeeddhaa
