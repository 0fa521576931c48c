/- BytesRuns: one call: Put. -/
import Derived.Test.YtkpdgjmeeeddhaaCa
import Derived.Test.YtkpdgjmeeeddhaaVq
set_option linter.unusedVariables false
set_option linter.unusedSimpArgs false
namespace Go.Proofs.Ytkpdgjmeeeddhaa
open Go.RowKit
set_option linter.unusedVariables false
set_option linter.unusedSimpArgs false
variable {W w : World} {R B M : Nat} {os : List Nat} {ds : List (List Nat)} {fs : Nat → List Nat} {x : Nat → Value} {gs : Nat → Nat} {mc : Nat → List Nat}
set_option maxHeartbeats 4000000 in
set_option maxRecDepth 100000 in
theorem play_4 (y : Cl) (hy : y.ok W) (h300 : y.l ≤ 300) (hQ : QS W R B M os ds fs x gs mc w) (he : ∀ i, i < 2 → mc i = Sg.cont ds (fs i)) (t u : Int) (e1 : y.k.tmod 7 = t) (e2 : RowKit.wrap64 (t + 7) = u) (e3 : u.tmod 7 = 4) :
    Calls Try.prog 10 #[.pointer (some ⟨R, 0, none⟩), .slice (some ⟨B, 0, none⟩) 2 2, .slice (some ⟨M, 0, none⟩) 2 2, .agg y.cs.toArray] w fun e w' => e = .returned (.bool true) ∧ PI W R B M w' := by
  obtain ⟨i, eh, hi⟩ := and1' y.h
  have hq1 := hQ.below (below_alloc1 w (Obj.cells y.cs.toArray 32))
  have hcb : CB (w.alloc (Obj.cells y.cs.toArray 32)) w.heap.size y := heap_alloc_new _ _
  obtain ⟨hl64, hl16⟩ := hq1.len hi
  rw [← he i hi] at hl64
  obtain ⟨Ax, ex, hbr⟩ := (hq1.mr i hi).form
  obtain ⟨L, eL⟩ : ∃ L, (mc i).length = L := ⟨_, rfl⟩
  rw [eL] at ex hl64
  have hL : L ≤ 1024 := by omega
  obtain ⟨k, h, o, n, a, z, Ad, l, c⟩ := y
  obtain ⟨hk, hw, ho, hn, ha, hz, dat, hdl, hdc, hdr, hdb⟩ := hy
  simp only [] at h300
  have HL3 := Lib.hid h300
  clear h300
  simp only [Cl.cs] at hk hw ho hn ha hz hdl hdc hdr e1 eh hq1 hcb ⊢
  have hdr1 := hdr.below hq1.lw.1
  have hi2 : (i : Int) < 2 := by omega
  have HY := Lib.hid (And.intro ho (And.intro hn (And.intro ha (And.intro hz (And.intro hdl (And.intro hdc (And.intro hdr (And.intro hdb (And.intro hi (And.intro he (And.intro eL (And.intro hl64 hL))))))))))))
  have HQ := Lib.hid (And.intro hq1 hcb)
  have HEX := Lib.hid ex
  have HE := Lib.hid (And.intro eh (And.intro e1 (And.intro e2 e3)))
  clear eh e1 e2 e3
  clear hk hw ho hn ha hz hdl hdc hdr hdb hi he eL hl64 hL hq1 hcb hQ ex hbr hl16 hdr1
  go_enter Try.func10, Try.ntmps10
  go_upto_region 1 with fail
  obtain ⟨W1, eW1⟩ : ∃ W1, w.alloc (Obj.cells #[.int .i64 k, .int .i64 h, .int .i64 o, .int .i64 n, .int .i64 a, .int .u64 (z : Int), .slice Ad l c] 32) = W1 := ⟨_, rfl⟩
  obtain ⟨C, eC⟩ : ∃ C, w.heap.size = C := ⟨_, rfl⟩
  have HQ1 : Hid (QS W R B M os ds fs x gs mc W1 ∧ CB W1 C ⟨k, h, o, n, a, z, Ad, l, c⟩) := Lib.hid (by rw [← eW1, ← eC]; exact HQ.out)
  rw [eW1, eC]
  clear HQ eW1 eC
  obtain ⟨q0, q1, q2, q3, q4, q5, q6⟩ := HQ1.out.2.cells
  have cM := (HQ1.out.1.cellM HY.out.2.2.2.2.2.2.2.2.1).1
  rw [HEX.out] at cM
  obtain ⟨v, hsv0⟩ := HQ1.out.1.sv i HY.out.2.2.2.2.2.2.2.2.1
  have HSV := Lib.hid hsv0
  clear hsv0
  obtain ⟨ho, hn, ha, hz, hdl, hdc, hdr, hdb, hi, he, eL, hl64, hL⟩ := HY.out
  by_cases hin : 1 ≤ n ∧ n ≤ 8 ∧ 0 ≤ o ∧ o + n ≤ (64 * (fs i).length : Nat)
  · obtain ⟨off, rfl⟩ := Int.eq_ofNat_of_zero_le hin.2.2.1
    obtain ⟨m, rfl⟩ := Int.eq_ofNat_of_zero_le (show 0 ≤ n by omega)
    have hom : off + m ≤ L := by omega
    have hm1 : 1 ≤ m := by omega
    have hm8 : m ≤ 8 := by omega
    have CW := Lib.hid (put_st (off := off) (k := m) (y := z) HQ1.out.1.lw HSV.out (HQ1.out.1.ow i hi) (by omega) hm1 hm8 hz)
    have hwi : wi L off m = true := wi_iff.2 ⟨by omega, by omega, by omega⟩
    have HCW := Lib.hid (within_c L off m W1 (by omega) ho hn)
    rw [hwi] at HCW
    have hxg : x i = .slice (some ⟨gs i, 0, none⟩) L L := by
      rcases HQ1.out.1.mr i hi with ⟨e, _⟩ | ⟨e, _⟩
      · rw [e] at eL; simp at eL; omega
      · rw [e, eL]
    have HX2 := Lib.hid hxg
    have hax := hxg.symm.trans HEX.out
    injection hax with hax
    subst hax
    have l1 : (1 : Int) ≤ (m : Int) := by omega
    have l8 : (m : Int) ≤ 8 := by omega
    have HB := Lib.hid (And.intro hi (And.intro he (And.intro eL (And.intro hom (And.intro hm1 (And.intro hm8 hL))))))
    clear ho hn ha hz hdl hdc hdr hdb hi he eL hl64 hL hin hom hwi hm1 hm8 hxg HY
    obtain ⟨eh, e1, e2, e3⟩ := HE.out
    go_wp2_with fail
    clear eh e1 e2 e3
    refine HCW.out.mono ?_
    rintro e w2 ⟨rfl, rfl⟩
    go_wp2_with fail
    refine CW.out.mono ?_
    rintro e w3 ⟨rfl, hw3⟩
    have hkp : Kp w2 w3 := by obtain ⟨_, _, h, _⟩ := hw3; exact h
    obtain ⟨hi, he, eL, hom, hm1, hm8, hL⟩ := HB.out
    obtain ⟨ds', hQ3, hc3, hc3o⟩ := HQ1.out.1.wrd hi hw3
    have hC3 := HQ1.out.2.kp hkp
    have H3 : Hid (QS W R B M os ds' fs x gs (up mc i (Fr.lay (mc i) off ((Pk.enc m z).take 0))) w3 ∧ CB w3 C ⟨k, h, off, m, a, z, Ad, l, c⟩) := Lib.hid ⟨by rw [List.take_zero, Sg.lay_none, up_self]; exact hQ3, hC3⟩
    have HF : Hid (∀ j, j < 2 → up mc i (Fr.lay (mc i) off (Pk.enc m z)) j = Sg.cont ds' (fs j)) := Lib.hid (eq_up he (by rw [hc3, he i hi]) hc3o)
    clear hw3 hkp hi he eL hom hm1 hm8 hL hQ3 hc3 hc3o hC3 q0 q1 q2 q3 q4 q5 q6 cM HCW CW HQ1 HSV HE l1 l8
    go_wp2_with fail
    go_loopg [24] m (fun gh k' wx => ∃ j : Nat, j ≤ m ∧ gh = m - j ∧ k' = .int .i64 j ∧ Hid (QS W R B M os ds' fs x gs (up mc i (Fr.lay (mc i) off ((Pk.enc m z).take j))) wx ∧ CB wx C ⟨k, h, off, m, a, z, Ad, l, c⟩))
    case atStart => exact ⟨0, Nat.zero_le _, rfl, rfl, H3⟩
    case round =>
      clear H3
      obtain ⟨j, hj, hg, rfl, hI⟩ := hrel
      obtain ⟨p0, p1, p2, p3, p4, p5, p6⟩ := hI.out.2.cells
      by_cases hlt : j < m
      · obtain ⟨hi, he, eL, hom, hm1, hm8, hL⟩ := HB.out
        obtain ⟨d, ed⟩ : ∃ d, m - 1 - j = d := ⟨_, rfl⟩
        obtain ⟨oj, eoj⟩ : ∃ oj, off + j = oj := ⟨_, rfl⟩
        have l1 : (j : Int) < (m : Int) := Int.ofNat_lt.2 hlt
        have hm2000 : m ≤ 2000 := Nat.le_trans hm8 (by decide)
        have h5000 : off + j ≤ 5000 := by omega
        have i6 : (oj : Int) < (L : Int) := Int.ofNat_lt.2 (by rw [← eoj]; exact Nat.lt_of_lt_of_le (Nat.add_lt_add_left hlt off) hom)
        obtain ⟨WD, eWD⟩ : ∃ WD, wr.drew = WD := ⟨_, rfl⟩
        have hQD : QS W R B M os ds' fs x gs (up mc i (Fr.lay (mc i) off ((Pk.enc m z).take j))) WD := by rw [← eWD]; exact hI.out.1.drew
        have hCD : CB WD C ⟨k, h, off, m, a, z, Ad, l, c⟩ := by rw [← eWD]; exact hI.out.2
        have hge := enc_get m z j hlt
        obtain ⟨b, eb⟩ : ∃ b, z / 256 ^ (m - 1 - j) % 256 = b := ⟨_, rfl⟩
        have HSH := Lib.hid (shr_wrap hlt hm8 ed eb)
        rw [eb] at hge
        have hll : (Fr.lay (mc i) off ((Pk.enc m z).take j)).length = L := by rw [Sg.lay_length (by rw [List.length_take, Pk.enc_len]; omega), eL]
        obtain ⟨hb1, ⟨y', hb2⟩, hb3, hb4⟩ := hQD.byte (y := b) (j := off + j) hi HX2.out (by rw [up_same, hll]; omega)
        rw [up_same, up_up, ← lay_succ (by rw [Pk.enc_len, eL]; exact hom) hge] at hb1
        rw [eoj] at hb1 hb2 hb3 hb4
        have HN := Lib.hid (And.intro hb1 (hb4 _ _ hCD))
        have hjm : j + 1 ≤ m := hlt
        have HWD := Lib.hid eWD
        obtain ⟨q0, q1, q2, q3, q4, q5, q6⟩ := hCD.cells
        have cM := (hQD.cellM hi).1
        rw [HX2.out] at cM
        have i1 := w_succ hlt hm2000
        have i2 := w_pred hm1 hm2000
        have i3 := w_rest hlt hm2000 ed
        have i2' := w_pred' hm1 hm2000
        have i3' := w_rest' hlt hm2000 ed
        obtain ⟨i4, i5⟩ := w_add h5000 eoj
        clear hi he eL hom hm1 hm8 hL hI hlt hQD hCD hm2000 h5000 hge eb ed hll hb1 hb4 eoj eWD
        go_upto_region 47 with fail
        refine wp_region_still_tail 20 (by kernel_rfl) (by kernel_rfl) ?_
        rw [show ({ wr with drawn := wr.drawn + 1 } : World) = WD from HWD.out]
        simp only [List.take_succ_cons, List.take_zero, List.drop_succ_cons, List.drop_zero]
        clear p0 p1 p2 p3 p4 p5 p6
        repeat still_step
        refine wpStill_nil ?_
        rw [HSH.out]
        clear i2 i3 i2' i3' i4 i5 i6
        go_wp2_with fail
        go_roundg (m - (j + 1))
        case rel => exact ⟨j + 1, hjm, rfl, by first | rfl | (rw [i1]; rfl), HN⟩
        case measure => omega
      · obtain rfl : j = m := by omega
        clear hj hg
        go_wp2_with fail
        go_ret
        refine ⟨rfl, _, _, _, _, _, _, hI.out.1, ?_⟩
        rw [List.take_of_length_le (by rw [Pk.enc_len]; exact Nat.le_refl _)]
        exact HF.out
  · have CW := Lib.hid (put_no (P := .pointer (some ⟨R, 0, none⟩)) (x := z) HSV.out hz hin)
    by_cases h1 : n < 1
    · have l1 : ¬ (1 : Int) ≤ n := by omega
      have HP := Lib.hid (show PI W R B M W1 from ⟨_, _, _, _, _, _, HQ1.out.1, he⟩)
      clear ho hn ha hz hdl hdc hdr hdb hi he eL hl64 hL hin HY HQ1 HSV
      obtain ⟨eh, e1, e2, e3⟩ := HE.out
      go_wp2_with fail
      refine CW.out.mono ?_
      rintro e w3 ⟨rfl, hb3⟩
      have HB3 := Lib.hid hb3
      clear hb3 eh e1 e2 e3
      go_wp2_with fail
      go_loopg [24] 0 (fun gh k wx => k = .int .i64 0 ∧ w3 = wx)
      case atStart => exact ⟨rfl, rfl⟩
      case round =>
        obtain ⟨rfl, rfl⟩ := hrel
        go_wp2_with fail
        go_ret
        obtain ⟨os2, ds2, fs2, x2, g2, m2, h1, h2⟩ := HP.out
        exact ⟨rfl, os2, ds2, fs2, x2, g2, m2, h1.below HB3.out, h2⟩
    by_cases h8 : 8 < n
    · have l8 : ¬ n ≤ 8 := by omega
      have l1 : (1 : Int) ≤ n := by omega
      have HP := Lib.hid (show PI W R B M W1 from ⟨_, _, _, _, _, _, HQ1.out.1, he⟩)
      clear ho hn ha hz hdl hdc hdr hdb hi he eL hl64 hL hin HY HQ1 HSV
      obtain ⟨eh, e1, e2, e3⟩ := HE.out
      go_wp2_with fail
      refine CW.out.mono ?_
      rintro e w3 ⟨rfl, hb3⟩
      have HB3 := Lib.hid hb3
      clear hb3 eh e1 e2 e3
      go_wp2_with fail
      go_loopg [24] 0 (fun gh k wx => k = .int .i64 0 ∧ w3 = wx)
      case atStart => exact ⟨rfl, rfl⟩
      case round =>
        obtain ⟨rfl, rfl⟩ := hrel
        go_wp2_with fail
        go_ret
        obtain ⟨os2, ds2, fs2, x2, g2, m2, h1, h2⟩ := HP.out
        exact ⟨rfl, os2, ds2, fs2, x2, g2, m2, h1.below HB3.out, h2⟩
    · have l8 : n ≤ 8 := by omega
      have l1 : (1 : Int) ≤ n := by omega
      have HP := Lib.hid (show PI W R B M W1 from ⟨_, _, _, _, _, _, HQ1.out.1, he⟩)
      have hwi : wi L o n = false := by
        cases e : wi L o n with
        | false => rfl
        | true => have := wi_iff.1 e; exact absurd ⟨l1, l8, this.2.1, by omega⟩ hin
      have HCW := Lib.hid (within_c L o n W1 (by omega) ho hn)
      rw [hwi] at HCW
      clear hwi
      clear ho hn ha hz hdl hdc hdr hdb hi he eL hl64 hL hin HY HQ1 HSV
      obtain ⟨eh, e1, e2, e3⟩ := HE.out
      go_wp2_with fail
      refine HCW.out.mono ?_
      rintro e w2 ⟨rfl, rfl⟩
      go_wp2_with fail
      refine CW.out.mono ?_
      rintro e w3 ⟨rfl, hb3⟩
      have HB3 := Lib.hid hb3
      clear hb3 eh e1 e2 e3
      go_wp2_with fail
      go_loopg [24] 0 (fun gh k wx => k = .int .i64 0 ∧ w3 = wx)
      case atStart => exact ⟨rfl, rfl⟩
      case round =>
        obtain ⟨rfl, rfl⟩ := hrel
        go_wp2_with fail
        go_ret
        obtain ⟨os2, ds2, fs2, x2, g2, m2, h1, h2⟩ := HP.out
        exact ⟨rfl, os2, ds2, fs2, x2, g2, m2, h1.below HB3.out, h2⟩
end Go.Proofs.Ytkpdgjmeeeddhaa
