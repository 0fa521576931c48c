/- BytesRuns. -/
import Derived.Test.YtkpdgjmeeeddhaaDa
import Derived.Test.YtkpdgjmeeeddhaaDc
set_option linter.unusedVariables false
set_option linter.unusedSimpArgs false
namespace Go.Proofs.Ytkpdgjmeeeddhaa
open Go.RowKit
set_option linter.unusedVariables false
set_option linter.unusedSimpArgs false
variable {W w : World} {R B M : Nat}
set_option maxHeartbeats 4000000 in
set_option maxRecDepth 100000 in
theorem runs_all (A : Option Addr) (n c : Nat) (w : World) (hcm : 120 < n ∨ ∃ xs : List Cl, xs.length = n ∧ n ≤ 120 ∧ Cls w A xs) : Calls Try.prog 3 #[.slice A n c] w fun e w' => e = .returned (.bool true) ∧ Below w.heap.size w w' := by
  have CF := Lib.hid (fit_any w)
  have CLT : ∃ xs : List Cl, ∀ W' : World, Below w.heap.size w W' → Calls Try.prog 8 #[.slice A n c] W' (fun e w' => ∃ t, e = .returned (.bool t) ∧ Below W'.heap.size W' w' ∧ (t = true → xs.length = n ∧ n ≤ 120 ∧ Cls w A xs ∧ ∀ y ∈ xs, y.l ≤ 300)) := by
    rcases hcm with h | ⟨xs, h1, h2, h3⟩
    · exact ⟨[], fun W' hb => (light_big A n c W' h).mono fun e w' ⟨h1, h2⟩ => ⟨false, h1, h2, fun h => by cases h⟩⟩
    · have hk : ∀ W' : World, Below w.heap.size w W' → Cls W' A xs := fun W' hb i y hi => by
        obtain ⟨⟨a1, a2, a3, a4, a5, a6, dat, b1, b2, b3, b4⟩, bb, off, e, g1, g2⟩ := h3 i y hi
        exact ⟨⟨a1, a2, a3, a4, a5, a6, dat, b1, b2, b3.below hb, b4⟩, bb, off, e, Nat.lt_of_lt_of_le g1 hb.size, fun j u hu => by rw [hb.cell (p := ⟨bb, _, none⟩) g1]; exact g2 j u hu⟩
      exact ⟨xs, fun W' hb => (light_any A n c xs W' h1 h2 (hk W' hb)).mono fun e w' ⟨t, g1, g2, g3⟩ => ⟨t, g1, g2, fun ht => ⟨h1, h2, h3, g3 ht⟩⟩⟩
  obtain ⟨xs, CLT⟩ := CLT
  have CLT := Lib.hid CLT
  clear hcm
  go_enter Try.func3, Try.ntmps3
  go_wp2_with fail
  refine CF.out.mono ?_
  rintro e w1 ⟨rfl, hb1⟩
  have CL := Lib.hid (CLT.out w1 hb1)
  have HB1 := Lib.hid hb1
  clear hb1 CF CLT
  go_wp2_with fail
  refine CL.out.mono ?_
  rintro e w2 ⟨t, rfl, hb2, hx⟩
  have HB2 := Lib.hid (HB1.out.trans (hb2.mono HB1.out.size))
  clear hb2 CL HB1
  cases t with
  | false =>
    clear hx
    go_wp2_with fail
    go_ret
    exact ⟨rfl, HB2.out⟩
  | true =>
    have HX := Lib.hid (hx rfl)
    have CN := Lib.hid (new_lw (W := w) (w := w2) 20 (by omega) (by omega) HB2.out)
    clear hx HB2
    go_wp2_with fail
    refine CN.out.mono ?_
    rintro e w3 ⟨R, ds, rfl, hL, hb3⟩
    have HL := Lib.hid hL
    have hms := make_segs
    have hmr := make_rows
    clear hL hb3 CN
    go_upto_region 6 with fail
    go_cut [4, 5] from 17 to 18 (fun x4 x5 wx => ∃ B M : Nat, x4 = .slice (some ⟨B, 0, none⟩) 2 2 ∧ x5 = .slice (some ⟨M, 0, none⟩) 2 2 ∧ Hid (PI w R B M wx))
    case first =>
      have P1 := Lib.hid (start_1 HL.out)
      have P2 := Lib.hid (start_2 HL.out)
      clear HL
      go_region
      all_goals
        go_wp2_with fail
        go_meet
        first
          | exact ⟨_, _, rfl, rfl, P1⟩
          | exact ⟨_, _, rfl, rfl, P2⟩
    case rest =>
      clear hms hmr HL
      obtain ⟨B, M, rfl, rfl, HP⟩ := hcut
      go_wp2_with fail
      go_loopg [21] n (fun gh i wx => ∃ j : Nat, j ≤ n ∧ gh = n - j ∧ i = .int .i64 j ∧ Hid (PI w R B M wx))
      case atStart => exact ⟨0, Nat.zero_le _, rfl, rfl, HP⟩
      case round =>
        clear HP
        obtain ⟨j, hj, hg, rfl, hI⟩ := hrel
        by_cases hlt : j < n
        · obtain ⟨hl, hn, hx, h300⟩ := HX.out
          have l1 : (j : Int) < (n : Int) := Int.ofNat_lt.2 hlt
          obtain ⟨y, hy⟩ : ∃ y, xs[j]? = some y := ⟨_, List.getElem?_eq_getElem (by omega)⟩
          obtain ⟨b, off, rfl, _⟩ := (hx j y hy).2
          obtain ⟨hok, hc⟩ := hx.at_ hy hI.out.b
          have c0 : wr.cell? ⟨b, off + j * 7, none⟩ = some (.int .i64 y.k) := hc 0 _ rfl
          have c1 : wr.cell? ⟨b, off + j * 7 + 1, none⟩ = some (.int .i64 y.h) := hc 1 _ rfl
          have c2 : wr.cell? ⟨b, off + j * 7 + 2, none⟩ = some (.int .i64 y.o) := hc 2 _ rfl
          have c3 : wr.cell? ⟨b, off + j * 7 + 3, none⟩ = some (.int .i64 y.n) := hc 3 _ rfl
          have c4 : wr.cell? ⟨b, off + j * 7 + 4, none⟩ = some (.int .i64 y.a) := hc 4 _ rfl
          have c5 : wr.cell? ⟨b, off + j * 7 + 5, none⟩ = some (.int .u64 (y.x : Int)) := hc 5 _ rfl
          have c6 : wr.cell? ⟨b, off + j * 7 + 6, none⟩ = some (.slice y.A y.l y.c) := hc 6 _ rfl
          have hi1 : j ≤ 200 := by omega
          have i1 := w_succ (Nat.lt_succ_self j) (by omega)
          have CP := Lib.hid (play_any y hok (h300 y (List.mem_of_getElem? hy)) (hI.out.below (below_alloc1 wr (Obj.cells #[.int .i64 y.k, .int .i64 y.h, .int .i64 y.o, .int .i64 y.n, .int .i64 y.a, .int .u64 (y.x : Int), .slice y.A y.l y.c] 32))))
          have hjm : j + 1 ≤ n := hlt
          clear hl hn hx h300 hy hok hc hi1 hI hlt
          go_wp2_with fail
          refine CP.out.mono ?_
          rintro e w4 ⟨rfl, hp4⟩
          have HP := Lib.hid hp4
          clear hp4 CP c0 c1 c2 c3 c4 c5 c6
          go_wp2_with fail
          go_loopg [33] 2 (fun gh i wx => ∃ j2 : Nat, j2 ≤ 2 ∧ gh = 2 - j2 ∧ i = .int .i64 j2 ∧ Hid (PI w R B M wx))
          case atStart => exact ⟨0, Nat.zero_le _, rfl, rfl, HP⟩
          case round =>
            clear HP
            obtain ⟨j2, hj2, hg2, rfl, hI⟩ := hrel
            by_cases hlt2 : j2 < 2
            · obtain ⟨os, ds, fs, x, gs, mc, hQ, he⟩ := hI.out
              obtain ⟨v, hsv⟩ := hQ.sv j2 hlt2
              obtain ⟨hl64, hl16⟩ := hQ.len hlt2
              obtain ⟨f, ef⟩ : ∃ f, (fs j2).length = f := ⟨_, rfl⟩
              obtain ⟨L, eL⟩ : ∃ L, 64 * f = L := ⟨_, rfl⟩
              rw [ef] at hl64 hl16
              rw [eL] at hl64
              have hbd : Below wr.heap.size wr wr.drew := (Below.refl _ _).drew
              have CS := size_any (hsv.below hbd)
              rw [ef, eL] at CS
              have CS := Lib.hid CS
              have CR := read_lw (off := 0) (n := L) hQ.drew.lw (hsv.below hbd) (hQ.ow j2 hlt2) (by rw [ef, eL]; omega)
              rw [List.drop_zero, List.take_of_length_le (by omega), ← he j2 hlt2] at CR
              have CR := Lib.hid CR
              have hml : (mc j2).length = L := by rw [he j2 hlt2]; exact hl64
              have HZ := Lib.hid (And.intro hQ (And.intro hsv (And.intro hml (And.intro ef (And.intro eL (And.intro hl16 (And.intro he hlt2)))))))
              have HML := Lib.hid hml
              have hj22 : (j2 : Int) < 2 := by omega
              have hjm2 : j2 + 1 ≤ 2 := hlt2
              clear hQ hsv hl64 ef eL hl16 he hbd hml hI hlt2
              go_upto_region 15 with fail
              go_region_law (first
                | (go_simp
                   go_at_call 12
                   refine CS.out.mono ?_
                   rintro e w5 ⟨rfl, rfl⟩)
                | (go_simp
                   go_at_call 11
                   refine CR.out.mono ?_
                   rintro e w6 ⟨v6, rfl, hbw, hb6⟩
                   obtain ⟨A6, c6, rfl, _, _, hr6, _, _⟩ := hbw.form
                   rw [HML.out]
                   have H6 := Lib.hid (And.intro hb6 hr6)
                   clear hbw hb6 hr6))
              obtain ⟨hQ, hsv, hml, ef, eL, hl16, he, hlt2⟩ := HZ.out
              obtain ⟨hb6, hr6⟩ := H6.out
              have hQ6 := hQ.drew.below hb6
              have hbw6 : Below wr.heap.size wr w6 := ((Below.refl wr.heap.size wr).drew).trans hb6
              have hsv6 := hsv.below hbw6
              obtain ⟨Ax, ex, hrx⟩ := (hQ6.mr j2 hlt2).form
              rw [hml] at ex
              have cM := (hQ6.cellM hlt2).1
              rw [ex] at cM
              have hcv1 : ∀ z, (convert 30 9 (.slice A6 L c6)).run Try.prog (w6.drewN z) = .ok (.string (Str (mc j2))) (w6.drewN z) := fun z => conv_bytes _ _ _ _ _ hml (bw_drewN (own := fun _ => True) hr6 z)
              have hcv2 : ∀ z, (convert 30 9 (.slice Ax L L)).run Try.prog (w6.drewN z) = .ok (.string (Str (mc j2))) (w6.drewN z) := fun z => conv_bytes _ _ _ _ _ hml (bw_drewN (own := fun _ => True) hrx z)
              obtain ⟨i3, ei3⟩ : ∃ i3, j2 + 1 = i3 := ⟨_, rfl⟩
              have HPG := Lib.hid (fun z => show Calls Try.prog 13 #[.pointer (some ⟨B, j2, none⟩)] (w6.drewN z) (fun e w' => e = .returned (.int .i64 (f : Int)) ∧ w' = w6.drewN z) from (pages_any (hsv6.below (w' := w6.drewN z) ⟨rfl, rfl, rfl, Nat.le_refl _, fun _ _ => rfl⟩)).mono fun e w' ⟨h1, h2⟩ => ⟨by rw [h1, ef], h2.symm⟩)
              have HCT := Lib.hid (fun z => show Calls Try.prog 14 #[.pointer (some ⟨R, 0, none⟩), .int .u64 (i3 : Int)] (w6.drewN z) (fun e w' => e = .returned (.int .i64 (f : Int)) ∧ w' = w6.drewN z) from (count_lw (x := i3) (hQ6.drewN z).lw (by omega)).mono fun e w' ⟨h1, h2⟩ => ⟨by rw [h1, ← ei3, (hQ.ow j2 hlt2).cnt, ef], h2.symm⟩)
              have HP6 := Lib.hid (fun z => show PI w R B M (w6.drewN z) from ⟨_, _, _, _, _, _, hQ6.drewN z, he⟩)
              have b3 : j2 + 1 ≤ 5000 := by omega
              have b4 : i3 ≤ 5000 := by omega
              obtain ⟨g1, g2⟩ := w_mul hl16 eL
              obtain ⟨g5, g6⟩ := w_add b3 ei3
              have g5' : RowKit.wrap64 ((j2 : Int) + 1) = (i3 : Int) := g5
              have g6' : IntKind.i64.wrap ((j2 : Int) + 1) = (i3 : Int) := g6
              have g7 := w_u64 b4
              have HI3 := Lib.hid ei3
              clear g5 g6 b3 b4 hQ hsv hml ef eL hl16 he hlt2 hb6 hr6 hQ6 hbw6 hsv6 ex hrx ei3 HZ HML CS CR H6
              go_upto_region 16 with fail
              go_quiet (first
                | (go_at_call 13; with_reducible exact Calls.quiet_of_same (HPG.out _))
                | (go_at_call 14; with_reducible exact Calls.quiet_of_same (HCT.out _)))
              go_wp2_with fail
              go_roundg (2 - (j2 + 1))
              case rel => exact ⟨j2 + 1, hjm2, rfl, by rw [HI3.out], Lib.hid (HP6.out _)⟩
              case measure => first | (rw [hg2]; exact meas hjm2) | omega
            · obtain rfl : j2 = 2 := by omega
              clear hj2 hg2 hlt2
              go_wp2_with fail
              go_roundg (n - (j + 1))
              case rel => exact ⟨j + 1, hjm, rfl, by first | rfl | (rw [i1]; rfl), hI⟩
              case measure => first | (rw [hg]; exact meas hjm) | omega
        · obtain rfl : j = n := by omega
          obtain ⟨os, ds, fs, x, gs, mc, hQ, he⟩ := hI.out
          obtain ⟨v0, hs0⟩ := hQ.sv 0 (by omega)
          obtain ⟨v1, hs1⟩ := hQ.sv 1 (by omega)
          obtain ⟨f0, ef0⟩ : ∃ f0, (fs 0).length = f0 := ⟨_, rfl⟩
          obtain ⟨f1, ef1⟩ : ∃ f1, (fs 1).length = f1 := ⟨_, rfl⟩
          obtain ⟨q, eq⟩ : ∃ q, os.count 0 = q := ⟨_, rfl⟩
          have hsum : q + f0 + f1 = 20 := by
            have h1 := (hQ.ow 0 (by omega)).cnt
            have h2 := (hQ.ow 1 (by omega)).cnt
            have h3 := hQ.sum
            simp only [Nat.zero_add] at h1
            have h2' : os.count 2 = (fs 1).length := h2
            omega
          have HP0 := Lib.hid (fun z => show Calls Try.prog 13 #[.pointer (some ⟨B, 0, none⟩)] (wr.drewN z) (fun e w' => e = .returned (.int .i64 (f0 : Int)) ∧ w' = wr.drewN z) from (pages_any (hs0.below (w' := wr.drewN z) ⟨rfl, rfl, rfl, Nat.le_refl _, fun _ _ => rfl⟩)).mono fun e w' ⟨h1, h2⟩ => ⟨by rw [h1, ef0], h2.symm⟩)
          have HP1 := Lib.hid (fun z => show Calls Try.prog 13 #[.pointer (some ⟨B, 1, none⟩)] (wr.drewN z) (fun e w' => e = .returned (.int .i64 (f1 : Int)) ∧ w' = wr.drewN z) from (pages_any (hs1.below (w' := wr.drewN z) ⟨rfl, rfl, rfl, Nat.le_refl _, fun _ _ => rfl⟩)).mono fun e w' ⟨h1, h2⟩ => ⟨by rw [h1, ef1], h2.symm⟩)
          have HLF := Lib.hid (fun z => show Calls Try.prog 15 #[.pointer (some ⟨R, 0, none⟩)] (wr.drewN z) (fun e w' => e = .returned (.int .i64 (q : Int)) ∧ w' = wr.drewN z) from (left_lw (hQ.drewN z).lw).mono fun e w' ⟨h1, h2⟩ => ⟨by rw [h1, eq], h2.symm⟩)
          obtain ⟨d, s1, s2, s3, s4⟩ := w_left hsum
          have HPI := Lib.hid hI.out.b
          clear hQ he hs0 hs1 ef0 ef1 eq hsum hI hj hg hlt
          go_upto_region 20 with fail
          go_quiet (first
            | (go_at_call 15; with_reducible exact Calls.quiet_of_same (HLF.out _))
            | (go_at_call 13; with_reducible exact Calls.quiet_of_same (HP0.out _))
            | (go_at_call 13; with_reducible exact Calls.quiet_of_same (HP1.out _)))
          go_wp2_with fail
          go_ret
          exact ⟨rfl, HPI.out.trans ⟨rfl, rfl, rfl, Nat.le_refl _, fun _ _ => rfl⟩⟩
end Go.Proofs.Ytkpdgjmeeeddhaa
