/- BytesRuns: one call: Read. -/
import Derived.Test.YtkpdgjmeeeddhaaCa
import Derived.Test.YtkpdgjmeeeddhaaVq
set_option linter.unusedVariables false
set_option linter.unusedSimpArgs false
namespace Go.Proofs.Ytkpdgjmeeeddhaa
open Go.RowKit
set_option linter.unusedVariables false
set_option linter.unusedSimpArgs false
variable {W w : World} {R B M : Nat} {os : List Nat} {ds : List (List Nat)} {fs : Nat → List Nat} {x : Nat → Value} {gs : Nat → Nat} {mc : Nat → List Nat}
set_option maxHeartbeats 4000000 in
set_option maxRecDepth 100000 in
theorem play_1 (y : Cl) (hy : y.ok W) (h300 : y.l ≤ 300) (hQ : QS W R B M os ds fs x gs mc w) (he : ∀ i, i < 2 → mc i = Sg.cont ds (fs i)) (t u : Int) (e1 : y.k.tmod 7 = t) (e2 : RowKit.wrap64 (t + 7) = u) (e3 : u.tmod 7 = 1) :
    Calls Try.prog 10 #[.pointer (some ⟨R, 0, none⟩), .slice (some ⟨B, 0, none⟩) 2 2, .slice (some ⟨M, 0, none⟩) 2 2, .agg y.cs.toArray] w fun e w' => e = .returned (.bool true) ∧ PI W R B M w' := by
  obtain ⟨i, eh, hi⟩ := and1' y.h
  have hq1 := hQ.below (below_alloc1 w (Obj.cells y.cs.toArray 32))
  have hcb : CB (w.alloc (Obj.cells y.cs.toArray 32)) w.heap.size y := heap_alloc_new _ _
  obtain ⟨hl64, hl16⟩ := hq1.len hi
  rw [← he i hi] at hl64
  obtain ⟨Ax, ex, hbr⟩ := (hq1.mr i hi).form
  obtain ⟨L, eL⟩ : ∃ L, (mc i).length = L := ⟨_, rfl⟩
  rw [eL] at ex hl64
  have hL : L ≤ 1024 := by omega
  obtain ⟨k, h, o, n, a, z, Ad, l, c⟩ := y
  obtain ⟨hk, hw, ho, hn, ha, hz, dat, hdl, hdc, hdr, hdb⟩ := hy
  simp only [] at h300
  have HL3 := Lib.hid h300
  clear h300
  simp only [Cl.cs] at hk hw ho hn ha hz hdl hdc hdr e1 eh hq1 hcb ⊢
  have hdr1 := hdr.below hq1.lw.1
  have hi2 : (i : Int) < 2 := by omega
  have HY := Lib.hid (And.intro ho (And.intro hn (And.intro ha (And.intro hz (And.intro hdl (And.intro hdc (And.intro hdr (And.intro hdb (And.intro hi (And.intro he (And.intro eL (And.intro hl64 hL))))))))))))
  have HQ := Lib.hid (And.intro hq1 hcb)
  have HEX := Lib.hid ex
  have HE := Lib.hid (And.intro eh (And.intro e1 (And.intro e2 e3)))
  clear eh e1 e2 e3
  clear hk hw ho hn ha hz hdl hdc hdr hdb hi he eL hl64 hL hq1 hcb hQ ex hbr hl16 hdr1
  go_enter Try.func10, Try.ntmps10
  go_upto_region 1 with fail
  obtain ⟨W1, eW1⟩ : ∃ W1, w.alloc (Obj.cells #[.int .i64 k, .int .i64 h, .int .i64 o, .int .i64 n, .int .i64 a, .int .u64 (z : Int), .slice Ad l c] 32) = W1 := ⟨_, rfl⟩
  obtain ⟨C, eC⟩ : ∃ C, w.heap.size = C := ⟨_, rfl⟩
  have HQ1 : Hid (QS W R B M os ds fs x gs mc W1 ∧ CB W1 C ⟨k, h, o, n, a, z, Ad, l, c⟩) := Lib.hid (by rw [← eW1, ← eC]; exact HQ.out)
  rw [eW1, eC]
  clear HQ eW1 eC
  obtain ⟨q0, q1, q2, q3, q4, q5, q6⟩ := HQ1.out.2.cells
  have cM := (HQ1.out.1.cellM HY.out.2.2.2.2.2.2.2.2.1).1
  rw [HEX.out] at cM
  obtain ⟨v, hsv0⟩ := HQ1.out.1.sv i HY.out.2.2.2.2.2.2.2.2.1
  have HSV := Lib.hid hsv0
  clear hsv0
  obtain ⟨ho, hn, ha, hz, hdl, hdc, hdr, hdb, hi, he, eL, hl64, hL⟩ := HY.out
  by_cases hin : 0 ≤ o ∧ 0 ≤ n ∧ o + n ≤ (64 * (fs i).length : Nat)
  · obtain ⟨off, rfl⟩ := Int.eq_ofNat_of_zero_le hin.1
    obtain ⟨m, rfl⟩ := Int.eq_ofNat_of_zero_le hin.2.1
    have hom : off + m ≤ L := by omega
    have CR := Lib.hid (read_lw (off := off) (n := m) HQ1.out.1.lw HSV.out (HQ1.out.1.ow i hi) (by omega))
    rw [← he i hi] at CR
    have hbl : (((mc i).drop off).take m).length = m := by rw [List.length_take, List.length_drop]; omega
    have HB := Lib.hid (And.intro hbl (And.intro hi (And.intro he (And.intro eL (And.intro hom (And.intro hL (And.intro ho hn)))))))
    have hwi : wi L off m = true := wi_iff.2 ⟨by omega, by omega, by omega⟩
    have HW := Lib.hid hwi
    clear ho hn ha hz hdl hdc hdr hdb hi he eL hl64 hL hin hom hbl hwi HY
    obtain ⟨eh, e1, e2, e3⟩ := HE.out
    go_wp2_with fail
    refine CR.out.mono ?_
    rintro e w3 ⟨v3, rfl, hbw, hb3⟩
    clear eh e1 e2 e3 q0 q1 q2 q3 q4 q5 q6 cM
    obtain ⟨A3, c3, rfl, hc3, _, hr3, _, _⟩ := hbw.form
    obtain ⟨hbl, hi, he, eL, hom, hL, ho, hn⟩ := HB.out
    rw [hbl] at hc3 ⊢
    have hQ3 := HQ1.out.1.below hb3
    have hC3 := HQ1.out.2.below hb3
    have hcv1 : ∀ z, (convert 30 9 (.slice A3 m c3)).run Try.prog (w3.drewN z) = .ok (.string (Str (((mc i).drop off).take m))) (w3.drewN z) := fun z => conv_bytes _ _ _ _ _ hbl (bw_drewN (own := fun _ => True) hr3 z)
    obtain ⟨Ay, ey, hry⟩ := (hQ3.mr i hi).form
    rw [HEX.out, eL] at ey
    injection ey with ey
    subst ey
    have hcv2 : ∀ z, (convert 30 9 (.slice (if L = off then Ax else Ax.map (·.add off)) m (L - off))).run Try.prog (w3.drewN z) = .ok (.string (Str (((mc i).drop off).take m))) (w3.drewN z) := fun z => conv_bytes _ _ _ _ _ hbl (bw_drewN (own := fun _ => True) (br_at hry eL off m) z)
    have HCW := Lib.hid (fun z => within_c L off m (w3.drewN z) (by omega) ho hn)
    rw [HW.out] at HCW
    have HP := Lib.hid (fun z => show PI W R B M (w3.drewN z) from ⟨_, _, _, _, _, _, hQ3.drewN z, he⟩)
    obtain ⟨q0, q1, q2, q3, q4, q5, q6⟩ := hC3.cells
    have cM := (hQ3.cellM hi).1
    rw [HEX.out] at cM
    obtain ⟨en, een⟩ : ∃ en, off + m = en := ⟨_, rfl⟩
    have s1 : RowKit.wrap64 ((off : Int) + (m : Int)) = (en : Int) := by unfold RowKit.wrap64; omega
    have s2 : IntKind.i64.wrap ((off : Int) + (m : Int)) = (en : Int) := by rw [IntKind.wrap_i64]; omega
    have s3 : (off : Int) ≤ (en : Int) := by omega
    have s4 : (en : Int) ≤ (L : Int) := by omega
    have s5 : (en : Int).toNat - off = m := by omega
    have s6 : en - off = m := by omega
    have s7 : (0 : Int) ≤ (off : Int) := by omega
    clear HSV HW HE
    clear hbw hb3 hbl hi he eL hom hL ho hn hQ3 hC3 hr3 hry HB CR een hc3
    by_cases hLo : L = off
    · rw [if_pos hLo] at hcv2
      subst hLo
      simp only [Nat.sub_self] at hcv2
      go_upto_region 24 with fail
      go_quiet ((go_at_call 22; exact Calls.quiet_of_same (HCW.out _)))
      go_wp2_with fail
      go_ret
      exact ⟨rfl, HP.out nq⟩
    · rw [if_neg hLo] at hcv2
      go_upto_region 24 with fail
      go_quiet ((go_at_call 22; exact Calls.quiet_of_same (HCW.out _)))
      go_wp2_with fail
      go_ret
      exact ⟨rfl, HP.out nq⟩
  · have hwi : wi L o n = false := by
      cases e : wi L o n with
      | false => rfl
      | true => have := wi_iff.1 e; exact absurd ⟨this.2.1, this.1, by omega⟩ hin
    have CR := Lib.hid (read_out (P := .pointer (some ⟨R, 0, none⟩)) HSV.out hn.1 hn.2 hin)
    have HCW := Lib.hid (fun W' => within_c L o n W' (by omega) ho hn)
    rw [hwi] at HCW
    have HP := Lib.hid (show PI W R B M W1.drew from ⟨_, _, _, _, _, _, HQ1.out.1.drew, he⟩)
    have HC1 := Lib.hid HQ1.out.2
    clear ho hn ha hz hdl hdc hdr hdb hi he eL hl64 hL hin hwi HY HQ1 HSV
    obtain ⟨eh, e1, e2, e3⟩ := HE.out
    go_wp2_with fail
    refine CR.out.mono ?_
    rintro e w3 ⟨rfl, rfl⟩
    clear eh e1 e2 e3
    go_upto_region 24 with fail
    have hHC := HC1.out
    refine region_AU (Z := fun j => j == 0 || j == 1 || j == 2 || j == 3 || j == 5) (S := fun Wz => CB Wz C ⟨k, h, o, n, a, z, Ad, l, c⟩) (by kernel_rfl) (hHC.below ((Below.refl _ _).drew)) (fun hHeld => ?_)
    clear hHC q0 q1 q2 q3 q4 q5 q6 cM
    refine AUP_take (i := 0) (oi := _) (v := ?vw0) rfl rfl (by kernel_rfl) (by kernel_rfl) (by kernel_rfl) (fun _ _ _ h => h) (Or.inl ⟨by rfl, ?hz0⟩) ?rst0
    case hz0 => (intro wS hSw; go_simp; try with_reducible rfl)
    simp only [Act.put, List.getElem_toArray, List.getElem_cons_zero, List.getElem_cons_succ, List.setIfInBounds_toArray, List.set_cons_zero, List.set_cons_succ]
    refine AUP_take (i := 1) (oi := _) (v := ?vw1) rfl rfl (by kernel_rfl) (by kernel_rfl) (by kernel_rfl) (fun _ _ _ h => h) (Or.inl ⟨by rfl, ?hz1⟩) ?rst1
    case hz1 => (intro wS hSw; go_simp; try with_reducible rfl)
    simp only [Act.put, List.getElem_toArray, List.getElem_cons_zero, List.getElem_cons_succ, List.setIfInBounds_toArray, List.set_cons_zero, List.set_cons_succ]
    refine AUP_take (i := 2) (oi := _) (v := ?vw2) rfl rfl (by kernel_rfl) (by kernel_rfl) (by kernel_rfl) (fun _ _ _ h => h) (Or.inl ⟨by rfl, ?hz2⟩) ?rst2
    case hz2 => (intro wS hSw; go_simp; try with_reducible rfl)
    simp only [Act.put, List.getElem_toArray, List.getElem_cons_zero, List.getElem_cons_succ, List.setIfInBounds_toArray, List.set_cons_zero, List.set_cons_succ]
    refine AUP_take (i := 3) (oi := _) (v := ?vw3) rfl rfl (by kernel_rfl) (by kernel_rfl) (by kernel_rfl) (fun _ _ _ h => h) (Or.inl ⟨by rfl, ?hz3⟩) ?rst3
    case hz3 => (intro wS hSw; go_simp; try with_reducible rfl)
    simp only [Act.put, List.getElem_toArray, List.getElem_cons_zero, List.getElem_cons_succ, List.setIfInBounds_toArray, List.set_cons_zero, List.set_cons_succ]
    refine AUP_take (i := 5) (oi := _) (v := ?vw5) rfl rfl (by kernel_rfl) (by kernel_rfl) (by kernel_rfl) (fun _ _ _ h => h) (Or.inl ⟨by rfl, ?hz5⟩) ?rst5
    case hz5 => (intro wS hSw; go_simp; try with_reducible rfl)
    simp only [Act.put, List.getElem_toArray, List.getElem_cons_zero, List.getElem_cons_succ, List.setIfInBounds_toArray, List.set_cons_zero, List.set_cons_succ]
    refine AUS_take (by kernel_rfl) rfl (i := 4) (oi := _) (v := ?vw4) rfl (by kernel_rfl) (by kernel_rfl) (by kernel_rfl) (fun _ _ _ h => h) (Or.inl ⟨by rfl, ?hz4⟩) hHeld ?rst4
    case hz4 => (intro wS hSw; obtain ⟨f0, f1, f2, f3, f4, f5, f6⟩ := hSw.cells; clear hSw; go_simp; try with_reducible rfl)
    simp only [Act.put, List.getElem_toArray, List.getElem_cons_zero, List.getElem_cons_succ, List.setIfInBounds_toArray, List.set_cons_zero, List.set_cons_succ]
    refine AUS_take (by kernel_rfl) rfl (i := 6) (oi := _) (v := ?vw6) rfl (by kernel_rfl) (by kernel_rfl) (by kernel_rfl) (fun _ _ _ h => h) (Or.inl ⟨by rfl, ?hz6⟩) hHeld ?rst6
    case hz6 => (intro wS hSw; obtain ⟨f0, f1, f2, f3, f4, f5, f6⟩ := hSw.cells; clear hSw; go_simp; try with_reducible rfl)
    simp only [Act.put, List.getElem_toArray, List.getElem_cons_zero, List.getElem_cons_succ, List.setIfInBounds_toArray, List.set_cons_zero, List.set_cons_succ]
    refine AU_one (i := 7) (o := _) (by kernel_rfl) rfl (fun K hK => ?_)
    go_simp
    refine (HCW.out _).mono ?_
    rintro e w4 ⟨rfl, rfl⟩
    refine hK.out _ _ (fun _ => hHeld) ?_
    clear hK K
    try simp only [Act.put, List.getElem_toArray, List.getElem_cons_zero, List.getElem_cons_succ, List.setIfInBounds_toArray, List.set_cons_zero, List.set_cons_succ]
    refine AUS_take (by kernel_rfl) rfl (i := 8) (oi := _) (v := ?vw8) rfl (by kernel_rfl) (by kernel_rfl) (by kernel_rfl) (fun _ _ _ h => h) (Or.inl ⟨by rfl, ?hz8⟩) hHeld ?rst8
    case hz8 => (intro wS hSw; clear hSw; go_simp; try with_reducible rfl)
    simp only [Act.put, List.getElem_toArray, List.getElem_cons_zero, List.getElem_cons_succ, List.setIfInBounds_toArray, List.set_cons_zero, List.set_cons_succ]
    refine AUS_take (by kernel_rfl) rfl (i := 9) (oi := _) (v := ?vw9) rfl (by kernel_rfl) (by kernel_rfl) (by kernel_rfl) (fun _ _ _ h => h) (Or.inl ⟨by rfl, ?hz9⟩) hHeld ?rst9
    case hz9 => (intro wS hSw; clear hSw; go_simp; try with_reducible rfl)
    simp only [Act.put, List.getElem_toArray, List.getElem_cons_zero, List.getElem_cons_succ, List.setIfInBounds_toArray, List.set_cons_zero, List.set_cons_succ]
    refine AUS_take (by kernel_rfl) rfl (i := 10) (oi := _) (v := ?vw10) rfl (by kernel_rfl) (by kernel_rfl) (by kernel_rfl) (fun _ _ _ h => h) (Or.inl ⟨by rfl, ?hz10⟩) hHeld ?rst10
    case hz10 => (intro wS hSw; clear hSw; go_simp; try with_reducible rfl)
    simp only [Act.put, List.getElem_toArray, List.getElem_cons_zero, List.getElem_cons_succ, List.setIfInBounds_toArray, List.set_cons_zero, List.set_cons_succ]
    refine AUS_take (by kernel_rfl) rfl (i := 11) (oi := _) (v := ?vw11) rfl (by kernel_rfl) (by kernel_rfl) (by kernel_rfl) (fun _ _ _ h => h) (Or.inl ⟨by rfl, ?hz11⟩) hHeld ?rst11
    case hz11 => (intro wS hSw; clear hSw; go_simp; try with_reducible rfl)
    simp only [Act.put, List.getElem_toArray, List.getElem_cons_zero, List.getElem_cons_succ, List.setIfInBounds_toArray, List.set_cons_zero, List.set_cons_succ]
    refine AUS_take (by kernel_rfl) rfl (i := 12) (oi := _) (v := ?vw12) rfl (by kernel_rfl) (by kernel_rfl) (by kernel_rfl) (fun _ _ _ h => h) (Or.inl ⟨by rfl, ?hz12⟩) hHeld ?rst12
    case hz12 => (intro wS hSw; clear hSw; go_simp; try with_reducible rfl)
    simp only [Act.put, List.getElem_toArray, List.getElem_cons_zero, List.getElem_cons_succ, List.setIfInBounds_toArray, List.set_cons_zero, List.set_cons_succ]
    refine AUS_take (by kernel_rfl) rfl (i := 13) (oi := _) (v := undef) rfl (by kernel_rfl) (by kernel_rfl) (by kernel_rfl) (fun _ _ _ h => h) (Or.inr ⟨by rfl, rfl⟩) hHeld ?rst13
    try simp only [Act.put, List.getElem_toArray, List.getElem_cons_zero, List.getElem_cons_succ, List.setIfInBounds_toArray, List.set_cons_zero, List.set_cons_succ]
    refine AUS_take (by kernel_rfl) rfl (i := 14) (oi := _) (v := undef) rfl (by kernel_rfl) (by kernel_rfl) (by kernel_rfl) (fun _ _ _ h => h) (Or.inr ⟨by rfl, rfl⟩) hHeld ?rst14
    try simp only [Act.put, List.getElem_toArray, List.getElem_cons_zero, List.getElem_cons_succ, List.setIfInBounds_toArray, List.set_cons_zero, List.set_cons_succ]
    refine AUS_take (by kernel_rfl) rfl (i := 15) (oi := _) (v := undef) rfl (by kernel_rfl) (by kernel_rfl) (by kernel_rfl) (fun _ _ _ h => h) (Or.inr ⟨by rfl, rfl⟩) hHeld ?rst15
    try simp only [Act.put, List.getElem_toArray, List.getElem_cons_zero, List.getElem_cons_succ, List.setIfInBounds_toArray, List.set_cons_zero, List.set_cons_succ]
    refine AUS_take (by kernel_rfl) rfl (i := 16) (oi := _) (v := undef) rfl (by kernel_rfl) (by kernel_rfl) (by kernel_rfl) (fun _ _ _ h => h) (Or.inr ⟨by rfl, rfl⟩) hHeld ?rst16
    try simp only [Act.put, List.getElem_toArray, List.getElem_cons_zero, List.getElem_cons_succ, List.setIfInBounds_toArray, List.set_cons_zero, List.set_cons_succ]
    refine AUS_take (by kernel_rfl) rfl (i := 17) (oi := _) (v := undef) rfl (by kernel_rfl) (by kernel_rfl) (by kernel_rfl) (fun _ _ _ h => h) (Or.inr ⟨by rfl, rfl⟩) hHeld ?rst17
    try simp only [Act.put, List.getElem_toArray, List.getElem_cons_zero, List.getElem_cons_succ, List.setIfInBounds_toArray, List.set_cons_zero, List.set_cons_succ]
    refine AUS_take (by kernel_rfl) rfl (i := 18) (oi := _) (v := undef) rfl (by kernel_rfl) (by kernel_rfl) (by kernel_rfl) (fun _ _ _ h => h) (Or.inr ⟨by rfl, rfl⟩) hHeld ?rst18
    try simp only [Act.put, List.getElem_toArray, List.getElem_cons_zero, List.getElem_cons_succ, List.setIfInBounds_toArray, List.set_cons_zero, List.set_cons_succ]
    refine AUS_take (by kernel_rfl) rfl (i := 19) (oi := _) (v := undef) rfl (by kernel_rfl) (by kernel_rfl) (by kernel_rfl) (fun _ _ _ h => h) (Or.inr ⟨by rfl, rfl⟩) hHeld ?rst19
    try simp only [Act.put, List.getElem_toArray, List.getElem_cons_zero, List.getElem_cons_succ, List.setIfInBounds_toArray, List.set_cons_zero, List.set_cons_succ]
    refine AUS_take (by kernel_rfl) rfl (i := 20) (oi := _) (v := undef) rfl (by kernel_rfl) (by kernel_rfl) (by kernel_rfl) (fun _ _ _ h => h) (Or.inr ⟨by rfl, rfl⟩) hHeld ?rst20
    try simp only [Act.put, List.getElem_toArray, List.getElem_cons_zero, List.getElem_cons_succ, List.setIfInBounds_toArray, List.set_cons_zero, List.set_cons_succ]
    refine AUS_take (by kernel_rfl) rfl (i := 21) (oi := _) (v := undef) rfl (by kernel_rfl) (by kernel_rfl) (by kernel_rfl) (fun _ _ _ h => h) (Or.inr ⟨by rfl, rfl⟩) hHeld ?rst21
    try simp only [Act.put, List.getElem_toArray, List.getElem_cons_zero, List.getElem_cons_succ, List.setIfInBounds_toArray, List.set_cons_zero, List.set_cons_succ]
    refine AUS_take (by kernel_rfl) rfl (i := 22) (oi := _) (v := undef) rfl (by kernel_rfl) (by kernel_rfl) (by kernel_rfl) (fun _ _ _ h => h) (Or.inr ⟨by rfl, rfl⟩) hHeld ?rst22
    try simp only [Act.put, List.getElem_toArray, List.getElem_cons_zero, List.getElem_cons_succ, List.setIfInBounds_toArray, List.set_cons_zero, List.set_cons_succ]
    refine AUS_take (by kernel_rfl) rfl (i := 23) (oi := _) (v := undef) rfl (by kernel_rfl) (by kernel_rfl) (by kernel_rfl) (fun _ _ _ h => h) (Or.inr ⟨by rfl, rfl⟩) hHeld ?rst23
    try simp only [Act.put, List.getElem_toArray, List.getElem_cons_zero, List.getElem_cons_succ, List.setIfInBounds_toArray, List.set_cons_zero, List.set_cons_succ]
    refine AUS_take (by kernel_rfl) rfl (i := 24) (oi := _) (v := undef) rfl (by kernel_rfl) (by kernel_rfl) (by kernel_rfl) (fun _ _ _ h => h) (Or.inr ⟨by rfl, rfl⟩) hHeld ?rst24
    try simp only [Act.put, List.getElem_toArray, List.getElem_cons_zero, List.getElem_cons_succ, List.setIfInBounds_toArray, List.set_cons_zero, List.set_cons_succ]
    refine AUS_take (by kernel_rfl) rfl (i := 25) (oi := _) (v := undef) rfl (by kernel_rfl) (by kernel_rfl) (by kernel_rfl) (fun _ _ _ h => h) (Or.inr ⟨by rfl, rfl⟩) hHeld ?rst25
    try simp only [Act.put, List.getElem_toArray, List.getElem_cons_zero, List.getElem_cons_succ, List.setIfInBounds_toArray, List.set_cons_zero, List.set_cons_succ]
    refine AUS_take (by kernel_rfl) rfl (i := 26) (oi := _) (v := undef) rfl (by kernel_rfl) (by kernel_rfl) (by kernel_rfl) (fun _ _ _ h => h) (Or.inr ⟨by rfl, rfl⟩) hHeld ?rst26
    try simp only [Act.put, List.getElem_toArray, List.getElem_cons_zero, List.getElem_cons_succ, List.setIfInBounds_toArray, List.set_cons_zero, List.set_cons_succ]
    refine AUS_take (by kernel_rfl) rfl (i := 27) (oi := _) (v := undef) rfl (by kernel_rfl) (by kernel_rfl) (by kernel_rfl) (fun _ _ _ h => h) (Or.inr ⟨by rfl, rfl⟩) hHeld ?rst27
    try simp only [Act.put, List.getElem_toArray, List.getElem_cons_zero, List.getElem_cons_succ, List.setIfInBounds_toArray, List.set_cons_zero, List.set_cons_succ]
    refine AUS_take (by kernel_rfl) rfl (i := 28) (oi := _) (v := undef) rfl (by kernel_rfl) (by kernel_rfl) (by kernel_rfl) (fun _ _ _ h => h) (Or.inr ⟨by rfl, rfl⟩) hHeld ?rst28
    try simp only [Act.put, List.getElem_toArray, List.getElem_cons_zero, List.getElem_cons_succ, List.setIfInBounds_toArray, List.set_cons_zero, List.set_cons_succ]
    refine AUS_take (by kernel_rfl) rfl (i := 29) (oi := _) (v := ?vw29) rfl (by kernel_rfl) (by kernel_rfl) (by kernel_rfl) (fun _ _ _ h => h) (Or.inl ⟨by rfl, ?hz29⟩) hHeld ?rst29
    case hz29 => (intro wS hSw; clear hSw; go_simp; try with_reducible rfl)
    simp only [Act.put, List.getElem_toArray, List.getElem_cons_zero, List.getElem_cons_succ, List.setIfInBounds_toArray, List.set_cons_zero, List.set_cons_succ]
    refine AUS_take (by kernel_rfl) rfl (i := 30) (oi := _) (v := ?vw30) rfl (by kernel_rfl) (by kernel_rfl) (by kernel_rfl) (fun _ _ _ h => h) (Or.inl ⟨by rfl, ?hz30⟩) hHeld ?rst30
    case hz30 => (intro wS hSw; clear hSw; go_simp; try with_reducible rfl)
    simp only [Act.put, List.getElem_toArray, List.getElem_cons_zero, List.getElem_cons_succ, List.setIfInBounds_toArray, List.set_cons_zero, List.set_cons_succ]
    refine AUS_take (by kernel_rfl) rfl (i := 31) (oi := _) (v := ?vw31) rfl (by kernel_rfl) (by kernel_rfl) (by kernel_rfl) (fun _ _ _ h => h) (Or.inl ⟨by rfl, ?hz31⟩) hHeld ?rst31
    case hz31 => (intro wS hSw; clear hSw; go_simp; try with_reducible rfl)
    simp only [Act.put, List.getElem_toArray, List.getElem_cons_zero, List.getElem_cons_succ, List.setIfInBounds_toArray, List.set_cons_zero, List.set_cons_succ]
    refine AU_done (by kernel_rfl) ?_ _
    simp only [OnlyN]
    go_wp2_with fail
    go_ret
    exact ⟨rfl, HP.out⟩
end Go.Proofs.Ytkpdgjmeeeddhaa
