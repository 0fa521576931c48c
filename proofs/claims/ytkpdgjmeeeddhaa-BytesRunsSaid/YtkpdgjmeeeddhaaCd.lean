/- BytesRuns: one call: Write. -/
import Derived.Test.YtkpdgjmeeeddhaaCa
import Derived.Test.YtkpdgjmeeeddhaaVq
set_option linter.unusedVariables false
set_option linter.unusedSimpArgs false
namespace Go.Proofs.Ytkpdgjmeeeddhaa
open Go.RowKit
set_option linter.unusedVariables false
set_option linter.unusedSimpArgs false
variable {W w : World} {R B M : Nat} {os : List Nat} {ds : List (List Nat)} {fs : Nat → List Nat} {x : Nat → Value} {gs : Nat → Nat} {mc : Nat → List Nat}
set_option maxHeartbeats 4000000 in
set_option maxRecDepth 100000 in
theorem play_2 (y : Cl) (hy : y.ok W) (h300 : y.l ≤ 300) (hQ : QS W R B M os ds fs x gs mc w) (he : ∀ i, i < 2 → mc i = Sg.cont ds (fs i)) (t u : Int) (e1 : y.k.tmod 7 = t) (e2 : RowKit.wrap64 (t + 7) = u) (e3 : u.tmod 7 = 2) :
    Calls Try.prog 10 #[.pointer (some ⟨R, 0, none⟩), .slice (some ⟨B, 0, none⟩) 2 2, .slice (some ⟨M, 0, none⟩) 2 2, .agg y.cs.toArray] w fun e w' => e = .returned (.bool true) ∧ PI W R B M w' := by
  obtain ⟨i, eh, hi⟩ := and1' y.h
  have hq1 := hQ.below (below_alloc1 w (Obj.cells y.cs.toArray 32))
  have hcb : CB (w.alloc (Obj.cells y.cs.toArray 32)) w.heap.size y := heap_alloc_new _ _
  obtain ⟨hl64, hl16⟩ := hq1.len hi
  rw [← he i hi] at hl64
  obtain ⟨Ax, ex, hbr⟩ := (hq1.mr i hi).form
  obtain ⟨L, eL⟩ : ∃ L, (mc i).length = L := ⟨_, rfl⟩
  rw [eL] at ex hl64
  have hL : L ≤ 1024 := by omega
  obtain ⟨k, h, o, n, a, z, Ad, l, c⟩ := y
  obtain ⟨hk, hw, ho, hn, ha, hz, dat, hdl, hdc, hdr, hdb⟩ := hy
  simp only [] at h300
  have HL3 := Lib.hid h300
  clear h300
  simp only [Cl.cs] at hk hw ho hn ha hz hdl hdc hdr e1 eh hq1 hcb ⊢
  have hdr1 := hdr.below hq1.lw.1
  have hi2 : (i : Int) < 2 := by omega
  have HY := Lib.hid (And.intro ho (And.intro hn (And.intro ha (And.intro hz (And.intro hdl (And.intro hdc (And.intro hdr (And.intro hdb (And.intro hi (And.intro he (And.intro eL (And.intro hl64 hL))))))))))))
  have HQ := Lib.hid (And.intro hq1 hcb)
  have HEX := Lib.hid ex
  have HE := Lib.hid (And.intro eh (And.intro e1 (And.intro e2 e3)))
  clear eh e1 e2 e3
  clear hk hw ho hn ha hz hdl hdc hdr hdb hi he eL hl64 hL hq1 hcb hQ ex hbr hl16 hdr1
  go_enter Try.func10, Try.ntmps10
  go_upto_region 1 with fail
  obtain ⟨W1, eW1⟩ : ∃ W1, w.alloc (Obj.cells #[.int .i64 k, .int .i64 h, .int .i64 o, .int .i64 n, .int .i64 a, .int .u64 (z : Int), .slice Ad l c] 32) = W1 := ⟨_, rfl⟩
  obtain ⟨C, eC⟩ : ∃ C, w.heap.size = C := ⟨_, rfl⟩
  have HQ1 : Hid (QS W R B M os ds fs x gs mc W1 ∧ CB W1 C ⟨k, h, o, n, a, z, Ad, l, c⟩) := Lib.hid (by rw [← eW1, ← eC]; exact HQ.out)
  rw [eW1, eC]
  clear HQ eW1 eC
  obtain ⟨q0, q1, q2, q3, q4, q5, q6⟩ := HQ1.out.2.cells
  have cM := (HQ1.out.1.cellM HY.out.2.2.2.2.2.2.2.2.1).1
  rw [HEX.out] at cM
  obtain ⟨v, hsv0⟩ := HQ1.out.1.sv i HY.out.2.2.2.2.2.2.2.2.1
  have HSV := Lib.hid hsv0
  clear hsv0
  obtain ⟨ho, hn, ha, hz, hdl, hdc, hdr, hdb, hi, he, eL, hl64, hL⟩ := HY.out
  by_cases hin : 0 ≤ o ∧ o + (l : Int) ≤ (64 * (fs i).length : Nat)
  · obtain ⟨off, rfl⟩ := Int.eq_ofNat_of_zero_le hin.1
    have hom : off + l ≤ L := by omega
    have hdr1 := hdr.below HQ1.out.1.lw.1
    have hlt : ∀ b, Ad = some b → 0 < l → b.block < W.heap.size := fun b hb h0 => by
      obtain ⟨b', o', e, h1, _⟩ := hdr 0 _ (List.getElem?_eq_getElem (show 0 < dat.length by omega))
      rw [hb] at e; injection e with e; rw [e]; exact h1
    have CW := Lib.hid (bwrite_st (off := off) (n := l) HQ1.out.1.lw HSV.out (HQ1.out.1.ow i hi) (by omega) hdl hdc hdr1 hlt hdb)
    have hwi : wi L off l = true := wi_iff.2 ⟨by omega, by omega, by omega⟩
    have HCW := Lib.hid (within_c L off l W1 (by omega) ho (by have := HL3.out; unfold Bi; omega))
    rw [hwi] at HCW
    have HB := Lib.hid (And.intro hi (And.intro he (And.intro eL (And.intro hom (And.intro hdl hdr)))))
    clear ho hn ha hz hdl hdc hdr hdb hi he eL hl64 hL hin hom hwi hdr1 hlt HY
    obtain ⟨eh, e1, e2, e3⟩ := HE.out
    go_wp2_with fail
    clear eh e1 e2 e3
    refine HCW.out.mono ?_
    rintro e w2 ⟨rfl, rfl⟩
    go_wp2_with fail
    refine CW.out.mono ?_
    rintro e w3 ⟨rfl, hw3⟩
    have hkp : Kp w2 w3 := by obtain ⟨_, _, h, _⟩ := hw3; exact h
    obtain ⟨hi, he, eL, hom, hdl, hdr⟩ := HB.out
    obtain ⟨ds', hQ3, hc3, hc3o⟩ := HQ1.out.1.wrd hi hw3
    have hC3 := HQ1.out.2.kp hkp
    obtain ⟨W4, eW4⟩ : ∃ W4, w3.drew = W4 := ⟨_, rfl⟩
    have hQ4 : QS W R B M os ds' fs x gs mc W4 := by rw [← eW4]; exact hQ3.drew
    have hC4 : CB W4 C ⟨k, h, off, n, a, z, Ad, l, c⟩ := by rw [← eW4]; exact hC3
    have hmr := hQ4.mr i hi
    rw [HEX.out] at hmr
    obtain ⟨W5, hcopy, hm5, hT5, hs5⟩ := hmr.copy (off := off) (n := l) (dl := L - off) (dc := L - off) (c := c) (dat := dat) 3 eL hom (by omega) hdl (hdr.below hQ4.lw.1)
    have HP := Lib.hid (show PI W R B M W5 from ⟨_, _, _, _, _, _, hQ4.row hi hT5 (by rw [HEX.out]; exact hm5) (fun h0 => hs5 (by rw [h0] at eL; simp at eL; omega)), eq_up he (by rw [hc3, he i hi]) hc3o⟩)
    have HCP := Lib.hid hcopy
    have HE4 := Lib.hid eW4
    clear q0 q1 q2 q3 q4 q5 q6 cM
    obtain ⟨q0, q1, q2, q3, q4, q5, q6⟩ := hC4.cells
    have cM := (hQ4.cellM hi).1
    rw [HEX.out] at cM
    obtain ⟨p0, p1, p2, p3, p4, p5, p6⟩ := hC3.cells
    have s4 : (off : Int) ≤ (L : Int) := by omega
    have s7 : (0 : Int) ≤ (off : Int) := by omega
    clear hw3 hkp hi he eL hom hdl hdr hQ3 hc3 hc3o hC3 eW4 hQ4 hC4 hmr hcopy hm5 hT5 hs5 HB HCW CW HQ1 HSV HE
    by_cases hLo : L = off
    · rw [if_pos hLo] at HCP
      subst hLo
      simp only [Nat.sub_self] at HCP
      go_upto_region 30 with fail
      refine wp_region_still_tail 9 (by kernel_rfl) (by kernel_rfl) ?_
      rw [show ({ w3 with drawn := w3.drawn + 1 } : World) = W4 from HE4.out]
      simp only [List.take_succ_cons, List.take_zero, List.drop_succ_cons, List.drop_zero]
      clear p0 p1 p2 p3 p4 p5 p6
      repeat still_step
      refine wpStill_nil ?_
      go_wp2_with (refine wpList_copy_by rfl (.tmp 231) (.tmp 233) 30 30 rfl _ _ _ rfl rfl W5 HCP.out ?_)
      go_ret
      exact ⟨rfl, HP.out⟩
    · rw [if_neg hLo] at HCP
      go_upto_region 30 with fail
      refine wp_region_still_tail 9 (by kernel_rfl) (by kernel_rfl) ?_
      rw [show ({ w3 with drawn := w3.drawn + 1 } : World) = W4 from HE4.out]
      simp only [List.take_succ_cons, List.take_zero, List.drop_succ_cons, List.drop_zero]
      clear p0 p1 p2 p3 p4 p5 p6
      repeat still_step
      refine wpStill_nil ?_
      go_wp2_with (refine wpList_copy_by rfl (.tmp 231) (.tmp 233) 30 30 rfl _ _ _ rfl rfl W5 HCP.out ?_)
      go_ret
      exact ⟨rfl, HP.out⟩
  · have hwi : wi L o l = false := by
      cases e : wi L o l with
      | false => rfl
      | true => have := wi_iff.1 e; exact absurd ⟨this.2.1, by omega⟩ hin
    have CW := Lib.hid (write_out (P := .pointer (some ⟨R, 0, none⟩)) (A := Ad) (c := c) (n := l) HSV.out (by have := HL3.out; omega) hin)
    have HCW := Lib.hid (within_c L o l W1 (by omega) ho (by have := HL3.out; unfold Bi; omega))
    rw [hwi] at HCW
    have HP := Lib.hid (show PI W R B M W1 from ⟨_, _, _, _, _, _, HQ1.out.1, he⟩)
    clear ho hn ha hz hdl hdc hdr hdb hi he eL hl64 hL hin hwi HY HQ1 HSV
    obtain ⟨eh, e1, e2, e3⟩ := HE.out
    go_wp2_with fail
    clear eh e1 e2 e3
    refine HCW.out.mono ?_
    rintro e w2 ⟨rfl, rfl⟩
    go_wp2_with fail
    refine CW.out.mono ?_
    rintro e w3 ⟨rfl, rfl⟩
    go_wp2_with fail
    go_ret
    exact ⟨rfl, HP.out⟩
end Go.Proofs.Ytkpdgjmeeeddhaa
