/- BytesRuns: one call: Num. -/
import Derived.Test.YtkpdgjmeeeddhaaCa
import Derived.Test.YtkpdgjmeeeddhaaVq
set_option linter.unusedVariables false
set_option linter.unusedSimpArgs false
namespace Go.Proofs.Ytkpdgjmeeeddhaa
open Go.RowKit
set_option linter.unusedVariables false
set_option linter.unusedSimpArgs false
variable {W w : World} {R B M : Nat} {os : List Nat} {ds : List (List Nat)} {fs : Nat → List Nat} {x : Nat → Value} {gs : Nat → Nat} {mc : Nat → List Nat}
set_option maxHeartbeats 4000000 in
set_option maxRecDepth 100000 in
theorem play_3 (y : Cl) (hy : y.ok W) (h300 : y.l ≤ 300) (hQ : QS W R B M os ds fs x gs mc w) (he : ∀ i, i < 2 → mc i = Sg.cont ds (fs i)) (t u : Int) (e1 : y.k.tmod 7 = t) (e2 : RowKit.wrap64 (t + 7) = u) (e3 : u.tmod 7 = 3) :
    Calls Try.prog 10 #[.pointer (some ⟨R, 0, none⟩), .slice (some ⟨B, 0, none⟩) 2 2, .slice (some ⟨M, 0, none⟩) 2 2, .agg y.cs.toArray] w fun e w' => e = .returned (.bool true) ∧ PI W R B M w' := by
  obtain ⟨i, eh, hi⟩ := and1' y.h
  have hq1 := hQ.below (below_alloc1 w (Obj.cells y.cs.toArray 32))
  have hcb : CB (w.alloc (Obj.cells y.cs.toArray 32)) w.heap.size y := heap_alloc_new _ _
  obtain ⟨hl64, hl16⟩ := hq1.len hi
  rw [← he i hi] at hl64
  obtain ⟨Ax, ex, hbr⟩ := (hq1.mr i hi).form
  obtain ⟨L, eL⟩ : ∃ L, (mc i).length = L := ⟨_, rfl⟩
  rw [eL] at ex hl64
  have hL : L ≤ 1024 := by omega
  obtain ⟨k, h, o, n, a, z, Ad, l, c⟩ := y
  obtain ⟨hk, hw, ho, hn, ha, hz, dat, hdl, hdc, hdr, hdb⟩ := hy
  simp only [] at h300
  have HL3 := Lib.hid h300
  clear h300
  simp only [Cl.cs] at hk hw ho hn ha hz hdl hdc hdr e1 eh hq1 hcb ⊢
  have hdr1 := hdr.below hq1.lw.1
  have hi2 : (i : Int) < 2 := by omega
  have HY := Lib.hid (And.intro ho (And.intro hn (And.intro ha (And.intro hz (And.intro hdl (And.intro hdc (And.intro hdr (And.intro hdb (And.intro hi (And.intro he (And.intro eL (And.intro hl64 hL))))))))))))
  have HQ := Lib.hid (And.intro hq1 hcb)
  have HEX := Lib.hid ex
  have HE := Lib.hid (And.intro eh (And.intro e1 (And.intro e2 e3)))
  clear eh e1 e2 e3
  clear hk hw ho hn ha hz hdl hdc hdr hdb hi he eL hl64 hL hq1 hcb hQ ex hbr hl16 hdr1
  go_enter Try.func10, Try.ntmps10
  go_upto_region 1 with fail
  obtain ⟨W1, eW1⟩ : ∃ W1, w.alloc (Obj.cells #[.int .i64 k, .int .i64 h, .int .i64 o, .int .i64 n, .int .i64 a, .int .u64 (z : Int), .slice Ad l c] 32) = W1 := ⟨_, rfl⟩
  obtain ⟨C, eC⟩ : ∃ C, w.heap.size = C := ⟨_, rfl⟩
  have HQ1 : Hid (QS W R B M os ds fs x gs mc W1 ∧ CB W1 C ⟨k, h, o, n, a, z, Ad, l, c⟩) := Lib.hid (by rw [← eW1, ← eC]; exact HQ.out)
  rw [eW1, eC]
  clear HQ eW1 eC
  obtain ⟨q0, q1, q2, q3, q4, q5, q6⟩ := HQ1.out.2.cells
  have cM := (HQ1.out.1.cellM HY.out.2.2.2.2.2.2.2.2.1).1
  rw [HEX.out] at cM
  obtain ⟨v, hsv0⟩ := HQ1.out.1.sv i HY.out.2.2.2.2.2.2.2.2.1
  have HSV := Lib.hid hsv0
  clear hsv0
  obtain ⟨ho, hn, ha, hz, hdl, hdc, hdr, hdb, hi, he, eL, hl64, hL⟩ := HY.out
  by_cases hin : 1 ≤ n ∧ n ≤ 8 ∧ 0 ≤ o ∧ o + n ≤ (64 * (fs i).length : Nat)
  · obtain ⟨off, rfl⟩ := Int.eq_ofNat_of_zero_le hin.2.2.1
    obtain ⟨m, rfl⟩ := Int.eq_ofNat_of_zero_le (show 0 ≤ n by omega)
    have hom : off + m ≤ L := by omega
    have hm1 : 1 ≤ m := by omega
    have hm8 : m ≤ 8 := by omega
    have l1 : (1 : Int) ≤ (m : Int) := by omega
    have l8 : (m : Int) ≤ 8 := by omega
    obtain ⟨S, hp, -⟩ := HQ1.out.1.lw.2
    have CN := num_in HSV.out hp (HQ1.out.1.ow i hi).live (off := off) (k := m) (by omega) hm1 hm8
    rw [← he i hi] at CN
    have hbl : (((mc i).drop off).take m).length = m := by rw [List.length_take, List.length_drop]; omega
    have hby : ∀ y ∈ ((mc i).drop off).take m, y < 256 := fun y hy => by
      rw [he i hi] at hy
      exact Sg.cont_byte HQ1.out.1.lw.dw y (List.mem_of_mem_drop (List.mem_of_mem_take hy))
    obtain ⟨bs, ebs⟩ : ∃ bs, ((mc i).drop off).take m = bs := ⟨_, rfl⟩
    rw [ebs] at CN hbl hby
    obtain ⟨q, eq⟩ : ∃ q, Pk.num bs = q := ⟨_, rfl⟩
    rw [eq] at CN
    have CN := Lib.hid CN
    have hwi : wi L off m = true := wi_iff.2 ⟨by omega, by omega, by omega⟩
    have HCW := Lib.hid (fun W' => within_c L off m W' (by omega) ho hn)
    rw [hwi] at HCW
    have HB := Lib.hid (And.intro hi (And.intro he (And.intro eL (And.intro hom (And.intro hm1 (And.intro hm8 (And.intro hbl (And.intro hby (And.intro ebs (And.intro eq hL))))))))))
    clear ho hn ha hz hdl hdc hdr hdb hi he eL hl64 hL hin hom hwi hm1 hm8 hp hbl hby ebs eq HY
    obtain ⟨eh, e1, e2, e3⟩ := HE.out
    go_wp2_with fail
    refine CN.out.mono ?_
    rintro e w3 ⟨rfl, hb3⟩
    clear eh e1 e2 e3 q0 q1 q2 q3 q4 q5 q6 cM
    have hQ3 := HQ1.out.1.below hb3
    have hC3 := HQ1.out.2.below hb3
    obtain ⟨q0, q1, q2, q3, q4, q5, q6⟩ := hC3.cells
    have cM := (hQ3.cellM HB.out.1).1
    rw [HEX.out] at cM
    obtain ⟨Ay, ey, hry⟩ := (hQ3.mr i HB.out.1).form
    rw [HEX.out, HB.out.2.2.1] at ey
    injection ey with ey
    subst ey
    have HR := Lib.hid (And.intro hry (fun z => show PI W R B M (w3.drewN z) from ⟨_, _, _, _, _, _, hQ3.drewN z, HB.out.2.1⟩))
    clear hb3 hQ3 hC3 hry CN HQ1 HSV HE
    go_wp2_with fail
    refine (HCW.out _).mono ?_
    rintro e w4 ⟨rfl, rfl⟩
    clear l1 l8 HCW
    go_wp2_with fail
    go_loopg [20, 22] m (fun gh x20 k' wx => ∃ j : Nat, j ≤ m ∧ gh = m - j ∧ k' = .int .i64 j ∧ x20 = .int .u64 (Pk.num (bs.take j) : Nat) ∧ ∃ zz, wx = w4.drewN zz)
    case atStart => exact ⟨0, Nat.zero_le _, rfl, rfl, rfl, 0, rfl⟩
    case round =>
      obtain ⟨j, hj, hg, rfl, rfl, zz, rfl⟩ := hrel
      by_cases hlt : j < m
      · obtain ⟨hi, he, eL, hom, hm1, hm8, hbl, hby, ebs, eq, hL⟩ := HB.out
        obtain ⟨y, hy⟩ : ∃ y, bs[j]? = some y := ⟨_, List.getElem?_eq_getElem (by omega)⟩
        have hmy : (mc i)[off + j]? = some y := by
          rw [← ebs, List.getElem?_take, if_pos hlt, List.getElem?_drop] at hy; exact hy
        obtain ⟨b, o', eA, hb, hcell⟩ := HR.out.1 _ _ hmy
        subst eA
        have hyb := hby y (List.mem_of_getElem? hy)
        have hnt := Pk.num_take hy
        obtain ⟨p, ep⟩ : ∃ p, Pk.num (bs.take j) = p := ⟨_, rfl⟩
        have hp : p < 72057594037927936 := by
          have := Pk.num_lt j (bs.take j) (by rw [List.length_take]; omega) (fun c hc => hby c (List.mem_of_mem_take hc))
          rw [ep] at this
          exact Nat.lt_of_lt_of_le this (Nat.le_trans (Nat.pow_le_pow_right (by omega) (show j ≤ 7 by omega)) (by decide))
        rw [ep] at hnt ⊢
        have hor := or_byte p y hp hyb
        obtain ⟨oj, eoj⟩ : ∃ oj, off + j = oj := ⟨_, rfl⟩
        rw [eoj] at hmy
        have hcell' : w4.cell? ⟨b, o' + oj, none⟩ = some (.int .u8 (y : Int)) := by rw [← eoj]; exact hcell
        have hm2000 : m ≤ 2000 := Nat.le_trans hm8 (by decide)
        have h5000 : off + j ≤ 5000 := by omega
        have i6 : (oj : Int) < (L : Int) := Int.ofNat_lt.2 (by rw [← eoj]; exact Nat.lt_of_lt_of_le (Nat.add_lt_add_left hlt off) hom)
        have l1 : (j : Int) < (m : Int) := Int.ofNat_lt.2 hlt
        have hjm : j + 1 ≤ m := hlt
        have i1 := w_succ hlt hm2000
        obtain ⟨i4, i5⟩ := w_add h5000 eoj
        have HNT := Lib.hid hnt
        clear hi he eL hom hm1 hm8 hbl hby ebs eq hy hmy hb hcell hyb hnt ep hp eoj hm2000 h5000 hlt hL
        go_upto_region 38 with fail
        go_quiet (fail)
        go_wp2_with fail
        go_roundg (m - (j + 1))
        case rel => exact ⟨j + 1, hjm, rfl, by first | rfl | (rw [i1]; rfl), by rw [HNT.out, Int.natCast_add, Int.natCast_mul]; rfl, zz + nq, rfl⟩
        case measure => first | (rw [hg]; exact meas hjm) | omega
      · obtain rfl : j = m := by omega
        have hq : Pk.num (bs.take j) = q := by rw [List.take_of_length_le (by have := HB.out.2.2.2.2.2.2.1; omega)]; exact HB.out.2.2.2.2.2.2.2.2.2.1
        rw [hq]
        clear hj hg hq hlt
        go_wp2_with fail
        go_ret
        exact ⟨rfl, HR.out.2 zz⟩
  · obtain ⟨S, hp, -⟩ := HQ1.out.1.lw.2
    have CW := Lib.hid (num_no HSV.out hp (HQ1.out.1.ow i hi).live hn.1 hn.2 hin)
    by_cases h1 : n < 1
    · have l1 : ¬ (1 : Int) ≤ n := by omega
      have HP := Lib.hid (show PI W R B M W1 from ⟨_, _, _, _, _, _, HQ1.out.1, he⟩)
      have HC1 := Lib.hid HQ1.out.2
      clear ho hn ha hz hdl hdc hdr hdb hi he eL hl64 hL hin HY HQ1 HSV hp
      obtain ⟨eh, e1, e2, e3⟩ := HE.out
      go_wp2_with fail
      refine CW.out.mono ?_
      rintro e w3 ⟨rfl, hb3⟩
      have hC3 := HC1.out.below hb3
      have HB3 := Lib.hid hb3
      clear hb3 eh e1 e2 e3 q0 q1 q2 q3 q4 q5 q6 cM
      obtain ⟨q0, q1, q2, q3, q4, q5, q6⟩ := hC3.cells
      clear hC3
      go_wp2_with fail
      go_loopg [20, 22] 0 (fun gh x20 k' wx => x20 = .int .u64 0 ∧ k' = .int .i64 0 ∧ w3 = wx)
      case atStart => exact ⟨rfl, rfl, rfl⟩
      case round =>
        obtain ⟨rfl, rfl, rfl⟩ := hrel
        go_wp2_with fail
        go_ret
        obtain ⟨os2, ds2, fs2, x2, g2, m2, h1, h2⟩ := HP.out
        exact ⟨rfl, os2, ds2, fs2, x2, g2, m2, h1.below HB3.out, h2⟩
    by_cases h8 : 8 < n
    · have l8 : ¬ n ≤ 8 := by omega
      have l1 : (1 : Int) ≤ n := by omega
      have HP := Lib.hid (show PI W R B M W1 from ⟨_, _, _, _, _, _, HQ1.out.1, he⟩)
      have HC1 := Lib.hid HQ1.out.2
      clear ho hn ha hz hdl hdc hdr hdb hi he eL hl64 hL hin HY HQ1 HSV hp
      obtain ⟨eh, e1, e2, e3⟩ := HE.out
      go_wp2_with fail
      refine CW.out.mono ?_
      rintro e w3 ⟨rfl, hb3⟩
      have hC3 := HC1.out.below hb3
      have HB3 := Lib.hid hb3
      clear hb3 eh e1 e2 e3 q0 q1 q2 q3 q4 q5 q6 cM
      obtain ⟨q0, q1, q2, q3, q4, q5, q6⟩ := hC3.cells
      clear hC3
      go_wp2_with fail
      go_loopg [20, 22] 0 (fun gh x20 k' wx => x20 = .int .u64 0 ∧ k' = .int .i64 0 ∧ w3 = wx)
      case atStart => exact ⟨rfl, rfl, rfl⟩
      case round =>
        obtain ⟨rfl, rfl, rfl⟩ := hrel
        go_wp2_with fail
        go_ret
        obtain ⟨os2, ds2, fs2, x2, g2, m2, h1, h2⟩ := HP.out
        exact ⟨rfl, os2, ds2, fs2, x2, g2, m2, h1.below HB3.out, h2⟩
    · have l8 : n ≤ 8 := by omega
      have l1 : (1 : Int) ≤ n := by omega
      have HP := Lib.hid (show PI W R B M W1 from ⟨_, _, _, _, _, _, HQ1.out.1, he⟩)
      have HC1 := Lib.hid HQ1.out.2
      have hwi : wi L o n = false := by
        cases e : wi L o n with
        | false => rfl
        | true => have := wi_iff.1 e; exact absurd ⟨l1, l8, this.2.1, by omega⟩ hin
      have HCW := Lib.hid (fun W' => within_c L o n W' (by omega) ho hn)
      rw [hwi] at HCW
      clear hwi
      clear ho hn ha hz hdl hdc hdr hdb hi he eL hl64 hL hin HY HQ1 HSV hp
      obtain ⟨eh, e1, e2, e3⟩ := HE.out
      go_wp2_with fail
      refine CW.out.mono ?_
      rintro e w3 ⟨rfl, hb3⟩
      have hC3 := HC1.out.below hb3
      have HB3 := Lib.hid hb3
      clear hb3 eh e1 e2 e3 q0 q1 q2 q3 q4 q5 q6 cM
      obtain ⟨q0, q1, q2, q3, q4, q5, q6⟩ := hC3.cells
      clear hC3
      go_wp2_with fail
      refine (HCW.out _).mono ?_
      rintro e w4 ⟨rfl, rfl⟩
      go_wp2_with fail
      go_loopg [20, 22] 0 (fun gh x20 k' wx => x20 = .int .u64 0 ∧ k' = .int .i64 0 ∧ w4 = wx)
      case atStart => exact ⟨rfl, rfl, rfl⟩
      case round =>
        obtain ⟨rfl, rfl, rfl⟩ := hrel
        go_wp2_with fail
        go_ret
        obtain ⟨os2, ds2, fs2, x2, g2, m2, h1, h2⟩ := HP.out
        exact ⟨rfl, os2, ds2, fs2, x2, g2, m2, h1.below HB3.out, h2⟩
end Go.Proofs.Ytkpdgjmeeeddhaa
