/- NamesRuns. -/
import Derived.Test.YtkbhcfldnfnlaaaNh
import Derived.BigRegion
import Derived.BigQuiet
import Derived.StillTailTactics
set_option linter.unusedVariables false
set_option linter.unusedSimpArgs false
namespace Go.Proofs.Ytkbhcfldnfnlaaa
open Go.RowKit
set_option linter.unusedVariables false
set_option linter.unusedSimpArgs false
theorem and10 (n : Int) (h : 0 ≤ n) : ∃ m : Int, bits .and .u64 n 1023 = m ∧ 0 ≤ m ∧ m < 1024 := by
  refine ⟨_, rfl, ?_⟩
  show 0 ≤ IntKind.u64.wrap ((BitVec.ofInt 64 n &&& BitVec.ofInt 64 1023).toNat : Nat) ∧ _
  have key : (BitVec.ofInt 64 n &&& BitVec.ofInt 64 1023).toNat < 1024 := by
    rw [BitVec.toNat_and, show (BitVec.ofInt 64 1023).toNat = 2 ^ 10 - 1 from rfl, Nat.and_two_pow_sub_one_eq_mod]
    exact Nat.mod_lt _ (by omega)
  show 0 ≤ IntKind.u64.wrap ((BitVec.ofInt 64 n &&& BitVec.ofInt 64 1023).toNat : Nat) ∧ IntKind.u64.wrap ((BitVec.ofInt 64 n &&& BitVec.ofInt 64 1023).toNat : Nat) < 1024
  rw [IntKind.wrap_u64]
  omega
set_option maxRecDepth 100000 in
set_option maxHeartbeats 8000000 in
theorem runs_all (a0 a1 : Int) (A : Option Addr) (n c : Nat) (xs : List Int) (w : World) (ha0 : 0 ≤ a0) (hc : n ≤ c) (hcm : c ≤ maxLen) (hl : xs.length = n) (hr : LR inI w A xs) :
    Calls Try.prog 3 #[.int .u64 a0, .int .i64 a1, .slice A n c] w fun e w' => e = .returned (.bool true) ∧ Below w.heap.size w w' := by
  have B0 := Lib.hid (fit_any w)
  have hcm' : c ≤ 9223372036854775807 := hcm
  obtain ⟨L0, eL0, hL0, hL1⟩ := and10 a0 ha0
  obtain ⟨L, eL⟩ : ∃ L, L0 + 1 = L := ⟨_, rfl⟩
  have eL1 : IntKind.u64.wrap (L0 + 1) = L := by rw [IntKind.wrap_u64]; omega
  obtain ⟨t, u, N, e1, e2, e3, hN⟩ : ∃ (t u : Int) (i : Nat), a1.tmod 60 = t ∧ RowKit.wrap64 (t + 60) = u ∧ u.tmod 60 = (i : Int) ∧ i < 60 := place_of a1 60 (by omega) (by omega)
  by_cases hbig : 200 < n
  · have g1 : (n : Int) > 200 := by omega
    have g2 : (200 : Int) < n := by omega
    clear hr eL
    go_enter Try.func3, Try.ntmps3
    go_wp2_with fail
    refine B0.out.mono ?_; rintro e w1 ⟨rfl, hb⟩
    go_wp2_with fail
    go_ret
    exact ⟨rfl, hb⟩
  have HR := Lib.hid (And.intro hl hr)
  have hmm := @run_makeMap Try.prog
  have g1 : ¬ (n : Int) > 200 := by omega
  have g2 : ¬ (200 : Int) < n := by omega
  obtain ⟨U, eU⟩ : ∃ U, L + (N : Int) = U := ⟨_, rfl⟩
  have CN := fun W => new_ok (l := L) (k := (N : Int)) (by unfold nw; omega) W
  rw [eU] at CN
  have eU1 : IntKind.u64.wrap (L + (N : Int)) = U := by rw [IntKind.wrap_u64]; omega
  have eN1 : IntKind.u64.wrap (N : Int) = (N : Int) := by rw [IntKind.wrap_u64]; omega
  have CN := Lib.hid CN
  have HE := Lib.hid (show Ok L L U ∧ U ≤ 2000 from by unfold Ok; omega)
  clear hl hr hL0 hL1 eL eU
  go_enter Try.func3, Try.ntmps3
  go_wp2_with fail
  refine B0.out.mono ?_; rintro e w1 ⟨rfl, hb⟩
  have B1 := Lib.hid hb
  clear hb B0
  go_wp2_with fail
  refine (CN.out _).mono ?_; rintro e w2 ⟨rfl, hb⟩
  have B2 := Lib.hid (below_up B1.out hb)
  clear hb B1 CN
  have N2 := Lib.hid (PV.new w2 L L U)
  have hT : GS w (.slice (some ⟨w2.heap.size + 1, 0, none⟩) 1 1) (.slice (some ⟨w2.heap.size + 1 + 1, 0, none⟩) 1 1) (w2.heap.size + 1 + 1 + 1) [⟨L, L, U⟩] [⟨L, L, U⟩] 0 (fun _ => false) ((((w2.alloc (Obj.cells #[.int .u64 L, .int .u64 L, .int .u64 U] 26)).alloc (Obj.cells #[.int .u64 L, .int .u64 L, .int .u64 U] 26)).alloc (Obj.cells #[.int .u64 L, .int .u64 L, .int .u64 U] 30)).alloc (.map #[] 0)) := by
    have hs := B2.out.size
    obtain ⟨w3, e3⟩ : ∃ w3, w2.alloc (Obj.cells #[.int .u64 L, .int .u64 L, .int .u64 U] 26) = w3 := ⟨_, rfl⟩
    have z3 : w3.heap.size = w2.heap.size + 1 := by rw [← e3, World.size_alloc]
    have b3 : Below w.heap.size w w3 := by rw [← e3]; exact below_up B2.out (below_alloc1 _ _)
    rw [e3]
    obtain ⟨w4, e4⟩ : ∃ w4, w3.alloc (Obj.cells #[.int .u64 L, .int .u64 L, .int .u64 U] 26) = w4 := ⟨_, rfl⟩
    have z4 : w4.heap.size = w2.heap.size + 1 + 1 := by rw [← e4, World.size_alloc, z3]
    have r4 : w4.heap[w3.heap.size]? = some (Obj.cells #[.int .u64 L, .int .u64 L, .int .u64 U] 26) := by rw [← e4]; exact heap_alloc_new w3 _
    have b4 : Below w.heap.size w w4 := by rw [← e4]; exact below_up b3 (below_alloc1 _ _)
    rw [e4]
    have b5 := below_alloc1 w4 (Obj.cells #[.int .u64 L, .int .u64 L, .int .u64 U] 30)
    have r5 := heap_alloc_new w4 (Obj.cells #[.int .u64 L, .int .u64 L, .int .u64 U] 30)
    obtain ⟨w5, e5⟩ : ∃ w5, w4.alloc (Obj.cells #[.int .u64 L, .int .u64 L, .int .u64 U] 30) = w5 := ⟨_, rfl⟩
    have z5 : w5.heap.size = w2.heap.size + 1 + 1 + 1 := by rw [← e5, World.size_alloc, z4]
    rw [e5] at b5 r5
    rw [e5]
    have b6 := below_alloc1 w5 (.map #[] 0)
    rw [← z5, ← z4, ← z3]
    refine ⟨below_up (below_up b4 b5) b6, rv_below (rv_below (rv_one (p := ⟨L, L, U⟩) w3.heap.size r4 ?_) b5) b6, rv_below (rv_one (p := ⟨L, L, U⟩) w4.heap.size r5 ?_) b6, ?_, MapB.new w5⟩
    · omega
    · omega
    · omega
  have hok1 : Rg.ok ⟨L, L, U⟩ := HE.out.1
  have HT := Lib.hid (And.intro hT (And.intro (Fit.one (l := L) (u := U) HE.out.1.1) hok1))
  clear hT hok1
  obtain ⟨c0, c1, c2, _, _, _⟩ := N2.out
  go_wp2_with fail
  clear c0 c1 c2 N2 e1 e2 e3 eU1 eN1 eL1 eL0
  obtain ⟨G, eG⟩ : ∃ G, w2.heap.size + 1 + 1 + 1 = G := ⟨_, rfl⟩
  rw [eG] at HT ⊢
  clear eG
  go_loopg [9, 10, 55] n (fun gh v1 v2 i wr => ∃ k : Nat, k ≤ n ∧ gh = n - k ∧ i = .int .i64 k ∧ Hid (∃ rs K f, GS w v1 v2 G rs rs K f wr ∧ Fit rs f ∧ (∀ p ∈ rs, p.ok) ∧ rs.length ≤ k + 1 ∧ 0 < rs.length ∧ K ≤ k))
  case atStart => exact ⟨0, by omega, by omega, rfl, Lib.hid ⟨_, _, _, HT.out.1, HT.out.2.1, fun p hp => by rw [List.mem_singleton.1 hp]; exact HT.out.2.2, by simp, by simp, by omega⟩⟩
  case round =>
    clear HT
    obtain ⟨k, hk, hg, rfl, hI⟩ := hrel
    by_cases hlt : k < n
    · obtain ⟨rs, K, f, ht, hfit, hall, hlen, hpos, hK⟩ := hI.out
      obtain ⟨y, hy⟩ : ∃ y, xs[k]? = some y := ⟨_, List.getElem?_eq_getElem (by rw [HR.out.1]; exact hlt)⟩
      obtain ⟨b, off, rfl, hb, hcell⟩ := HR.out.2 k y hy
      have q1 : wr.cell? ⟨b, off + k, none⟩ = some (.int .i64 y) := by rw [ht.b.cell (p := ⟨b, off + k, none⟩) hb]; exact hcell
      obtain ⟨B, o, c3, rfl, hc3, hcm3, hB, hBl⟩ := rv_form ht.r hpos
      obtain ⟨M, mo, c4, rfl, hc4, hcm4, hM, hMl⟩ := rv_form ht.q hpos
      obtain ⟨m, em⟩ : ∃ m, rs.length = m := ⟨_, rfl⟩
      have hm0 : 0 < m := by omega
      obtain ⟨y8, e8⟩ : ∃ y8, y / 256 = y8 := ⟨_, rfl⟩
      obtain ⟨r16, e16, hr0, hr1⟩ := and16 y8
      obtain ⟨i, ei, hi⟩ : ∃ i : Nat, r16.tmod (m : Int) = (i : Int) ∧ i < m := ⟨r16.toNat % m, by rw [Int.tmod_eq_emod_of_nonneg hr0, Int.natCast_emod, Int.toNat_of_nonneg hr0], Nat.mod_lt _ hm0⟩
      obtain ⟨⟨pl, pn, pu⟩, hp⟩ : ∃ p, rs[i]? = some p := ⟨_, List.getElem?_eq_getElem (by omega)⟩
      have hok : Ok pl pn pu := hall _ (List.mem_of_getElem? hp)
      have hpv := rv_pv ht.q hp
      obtain ⟨O, eO⟩ : ∃ O, o + i * 3 = O := ⟨_, rfl⟩
      obtain ⟨MO, eMO⟩ : ∃ MO, mo + i * 3 = MO := ⟨_, rfl⟩
      rw [eMO] at hpv
      have i1 : IntKind.i64.wrap ((k : Int) + 1) = (k : Int) + 1 := by rw [IntKind.wrap_i64]; omega
      have l1 : (k : Int) < n := by omega
      have l2 : (i : Int) < m := by omega
      have l3 : ¬ (m : Int) = 0 := by omega
      have hcm3' : c3 ≤ 9223372036854775807 := hcm3
      have hcm4' : c4 ≤ 9223372036854775807 := hcm4
      obtain ⟨r, er⟩ : ∃ r, pu - pn = r := ⟨_, rfl⟩
      have er1 : IntKind.u64.wrap (pu - pn) = r := by unfold Ok at hok; rw [IntKind.wrap_u64]; omega
      have er2 : IntKind.i64.wrap r = r := by unfold Ok at hok; rw [IntKind.wrap_i64]; omega
      rw [em] at hc3 hc4 ht
      have HF := Lib.hid (And.intro hfit (And.intro hall (And.intro hlen (And.intro em (And.intro hp (And.intro hok (And.intro eO (And.intro eMO (And.intro er (And.intro hK hm0))))))))))
      have H1 := Lib.hid ht
      rw [em]
      clear ht hfit hall hlen hpos hB hBl hM hMl hy hb hcell em hm0 hp hok hI er hr0 hr1 hK
      obtain ⟨c0, c1, c2, _, _, _⟩ := hpv
      go_wp2_with fail
      go_quiet (fail)
      rename_i nq
      obtain ⟨W2, eW2⟩ : ∃ W2, wr.drewN nq = W2 := ⟨_, rfl⟩
      have H2 : Hid (GS w (.slice (some ⟨B, o, none⟩) m c3) (.slice (some ⟨M, mo, none⟩) m c4) G rs rs K f W2) := Lib.hid (by rw [← eW2]; exact H1.out.below (below_dN _ _))
      rw [eW2]
      clear eW2 H1 c0 c1 c2 q1 e8 e16 ei
      obtain ⟨y1, e17, hy0, hy1⟩ := and1 y
      go_upto_if 79 with fail
      go_cut [9, 10] (fun v1 v2 wx => ∃ (rs' : List Rg) (K' : Nat) (f' : Int → Bool) (wz : World), wz = wx ∧ Hid (GS w v1 v2 G rs' rs' K' f' wz ∧ Fit rs' f' ∧ (∀ p ∈ rs', p.ok) ∧ rs'.length ≤ k + 2 ∧ 0 < rs'.length ∧ K' ≤ k + 1))
      case first =>
        obtain ⟨hfit, hall, hlen, em, hp, hok, eO', eMO', er, hK, hm0⟩ := HF.out
        have HL := Lib.hid (And.intro hfit (And.intro hall (And.intro (show rs.length = m ∧ m ≤ k + 1 ∧ 0 < m ∧ K ≤ k ∧ k < n ∧ n ≤ 200 by omega) (And.intro hp (And.intro hok er)))))
        clear hfit hall hlen em hp hok eO' eMO' er hK hm0
        obtain rfl | rfl : y1 = 0 ∨ y1 = 1 := by omega
        · by_cases hr : r > 0
          · as_aux_lemma =>
            have hr' : 0 < r := hr
            have hlt2 : pn < pu := by have := HL.out.2.2.2.2.2; omega
            have htk := HL.out.1.take HL.out.2.2.2.1 hlt2 (by have := HL.out.2.2.2.2.1; unfold Ok at this; omega)
            obtain ⟨m1, em1⟩ : ∃ m1, pn + 1 = m1 := ⟨_, rfl⟩
            have e20 : IntKind.u64.wrap (pn + 1) = m1 := by have := HL.out.2.2.2.2.1; unfold Ok at this; rw [IntKind.wrap_u64]; omega
            have hok1 : Ok pl m1 pu := by have := HL.out.2.2.2.2.1; unfold Ok at *; omega
            have hne : ¬ pn = 0 := by have := HL.out.2.2.2.2.1; unfold Ok at *; omega
            have hne2 : (pn != 0) = true := by simpa using hne
            have HB1 := Lib.hid (show (0 : Int) ≤ pn ∧ pn ≤ 18446744073709551615 by have := HL.out.2.2.2.2.1; unfold Ok at *; omega)
            rw [em1] at htk
            have HT1 := Lib.hid (And.intro htk (And.intro hok1 (And.intro hlt2 em1)))
            have hpv := rv_pv H2.out.q HL.out.2.2.2.1
            rw [eMO] at hpv
            obtain ⟨c0, c1, c2, _, _, _⟩ := hpv
            clear htk hok1 hlt2 em1
            go_upto_region 21 with fail
            clear c0 c1 c2
            obtain ⟨W3, eW3⟩ : ∃ W3, ({ W2 with drawn := W2.drawn + 1 } : World) = W3 := ⟨_, rfl⟩
            have H3 : Hid (GS w (.slice (some ⟨B, o, none⟩) m c3) (.slice (some ⟨M, mo, none⟩) m c4) G rs rs K f W3) := Lib.hid (by rw [← eW3]; exact H2.out.drew)
            clear H2
            have hpv := rv_pv H3.out.q HL.out.2.2.2.1
            rw [eMO] at hpv
            obtain ⟨c0, c1, c2, f0, f1, f2⟩ := hpv
            refine wp_region_still_tail 8 (by kernel_rfl) (by kernel_rfl) ?_
            rw [eW3]
            simp only [List.take_succ_cons, List.take_zero, List.drop_succ_cons, List.drop_zero]
            clear eW3
            repeat still_step
            refine wpStill_nil ?_
            have h4 := H3.out.put2 (j := 1) (q := ⟨pl, m1, pu⟩) (x := m1) HL.out.2.2.2.1 (by omega) rfl (Below.refl _ _)
            rw [eMO] at h4
            have hpv := rv_pv h4.r HL.out.2.2.2.1
            rw [eO] at hpv
            have C := Lib.hid (take_ok HL.out.2.2.2.2.1 HT1.out.2.2.1 hpv)
            rw [HT1.out.2.2.2] at C
            have H4 := Lib.hid h4
            clear h4 hpv H3
            go_wp2_with fail
            refine C.out.mono ?_; rintro e w5 ⟨rfl, hb⟩
            have h5 := H4.out.put1 (j := 1) (q := ⟨pl, m1, pu⟩) (x := m1) HL.out.2.2.2.1 (by omega) rfl (by rw [eO]; exact hb)
            obtain ⟨w6, hrun, h6⟩ := h5.store (j := pn) (by have := HL.out.2.2.1; unfold maxLen; omega) HB1.out.1 HB1.out.2 true
            have hlk := h5.m.at_ HB1.out.1 HB1.out.2
            rw [HT1.out.1.1] at hlk
            have H6 := Lib.hid h6
            clear hb h5 h6 C H4 c0 c1 c2 f0 f1 f2
            go_wp2_with fail
            go_meet
            exact ⟨_, _, _, _, rfl, Lib.hid ⟨H6.out, HT1.out.1.2, fun p hp => by
              rcases List.mem_or_eq_of_mem_set hp with h1 | rfl
              · exact HL.out.2.1 p h1
              · exact HT1.out.2.1, by rw [List.length_set]; have := HL.out.2.2.1; omega, by rw [List.length_set]; have := HL.out.2.2.1; omega, by have := HL.out.2.2.1; omega⟩⟩
          · as_aux_lemma =>
            have hr' : ¬ 0 < r := hr
            have hlt2 : ¬ pn < pu := by have := HL.out.2.2.2.2.2; omega
            have hpv := rv_pv H2.out.r HL.out.2.2.2.1
            rw [eO] at hpv
            have C := Lib.hid (take_none hlt2 hpv)
            clear hpv hlt2
            go_wp2_with fail
            refine C.out.mono ?_; rintro e w5 ⟨rfl, hb⟩
            have h5 := H2.out.below hb
            obtain ⟨w6, hrun, h6⟩ := h5.store (j := 0) (by have := HL.out.2.2.1; unfold maxLen; omega) (by omega) (by omega) false
            have hlk := h5.m.at_ (j := 0) (by omega) (by omega)
            rw [HL.out.1.2] at hlk
            have H6 := Lib.hid h6
            clear hb h5 h6 C H2
            go_wp2_with fail
            go_meet
            exact ⟨_, _, _, _, rfl, Lib.hid ⟨H6.out, HL.out.1.none, HL.out.2.1, by have := HL.out.2.2.1; omega, by have := HL.out.2.2.1; omega, by have := HL.out.2.2.1; omega⟩⟩
        · obtain ⟨y2, e18⟩ : ∃ y2, y / 2 = y2 := ⟨_, rfl⟩
          obtain ⟨x4, e19, hx0, hx1⟩ := and4 y2
          obtain ⟨x, ex⟩ : ∃ x, x4 - 1 = x := ⟨_, rfl⟩
          have e20 : RowKit.wrap64 (x4 - 1) = x := by unfold RowKit.wrap64; omega
          have HX := Lib.hid (show -1 ≤ x ∧ x ≤ 14 by omega)
          clear hx0 hx1 ex
          by_cases hx : 0 ≤ x ∧ x ≤ r
          · as_aux_lemma =>
            obtain ⟨hx0, hxr⟩ := hx
            have hx0' : x ≥ 0 := hx0
            have hpv := rv_pv H2.out.r HL.out.2.2.2.1
            rw [eO] at hpv
            have hxr2 : x ≤ pu - pn := by have := HL.out.2.2.2.2.2; omega
            have hok : Ok pl pn pu := HL.out.2.2.2.2.1
            have C := Lib.hid (split_ok (k := x) hok (And.intro hx0 hxr2) hpv)
            obtain ⟨z, ez⟩ : ∃ z, pu - x = z := ⟨_, rfl⟩
            rw [ez] at C
            have hsp := split_right hok hx0 hxr2
            have hft := HL.out.1.split HL.out.2.2.2.1 hx0 hxr2
            rw [ez] at hsp hft
            have HS := Lib.hid (And.intro hsp hft)
            have e21 : IntKind.u64.wrap x = x := by have := HX.out; rw [IntKind.wrap_u64]; omega
            have e22 : IntKind.u64.wrap (pu - x) = z := by unfold Ok at hok; rw [IntKind.wrap_u64]; omega
            have e23 : IntKind.u64.wrap (z + x) = pu := by unfold Ok at hok; rw [IntKind.wrap_u64]; omega
            clear hpv hxr2 hok ez hsp hft
            go_wp2_with fail
            refine C.out.mono ?_; rintro e w5 ⟨rfl, hb⟩
            have h5 := H2.out.put1 (j := 2) (q := ⟨pl, pn, z⟩) (x := z) HL.out.2.2.2.1 (by omega) rfl (by rw [eO]; exact hb)
            have H6 := Lib.hid (h5.below (below_alloc1 w5 (Obj.cells #[.int .u64 z, .int .u64 z, .int .u64 pu] 26)))
            have N6 := Lib.hid (heap_alloc_new w5 (Obj.cells #[.int .u64 z, .int .u64 z, .int .u64 pu] 26))
            have HNB : Hid (B ≠ w5.heap.size) := Lib.hid (by obtain ⟨_, cur, hc⟩ := h5.r.lt; have := (Array.getElem?_eq_some_iff.1 hc).1; omega)
            clear hb h5 C H2
            go_upto_region 27 with fail
            obtain ⟨N3, eN3⟩ : ∃ N3, w5.heap.size = N3 := ⟨_, rfl⟩
            obtain ⟨W6, eW6⟩ : ∃ W6, w5.alloc (Obj.cells #[.int .u64 z, .int .u64 z, .int .u64 pu] 26) = W6 := ⟨_, rfl⟩
            rw [eW6] at H6 N6
            rw [eN3] at N6 HNB
            rw [eN3, eW6]
            clear eN3 eW6
            have n0 : W6.cell? ⟨N3, 0, none⟩ = some (.int .u64 z) := by rw [cell_of_row _ _ 0 _ _ (0, 0) N6.out]; rfl
            have n1 : W6.cell? ⟨N3, 1, none⟩ = some (.int .u64 z) := by rw [cell_of_row _ _ 1 _ _ (0, 0) N6.out]; rfl
            have n2 : W6.cell? ⟨N3, 2, none⟩ = some (.int .u64 pu) := by rw [cell_of_row _ _ 2 _ _ (0, 0) N6.out]; rfl
            go_upto_region 30 with fail
            clear n0 n1 n2
            obtain ⟨W7, eW7⟩ : ∃ W7, ({ W6 with drawn := W6.drawn + 1 } : World) = W7 := ⟨_, rfl⟩
            have H7 : Hid (GS w (.slice (some ⟨B, o, none⟩) m c3) (.slice (some ⟨M, mo, none⟩) m c4) G (rs.set i ⟨pl, pn, z⟩) rs K f W7) := Lib.hid (by rw [← eW7]; exact H6.out.drew)
            have N7 : Hid (W7.heap[N3]? = some (Obj.cells #[.int .u64 z, .int .u64 z, .int .u64 pu] 26)) := Lib.hid (by rw [← eW7]; exact N6.out)
            clear H6 N6
            have hpv := rv_pv H7.out.q HL.out.2.2.2.1
            rw [eMO] at hpv
            obtain ⟨c0, c1, c2, f0, f1, f2⟩ := hpv
            refine wp_region_still_tail 10 (by kernel_rfl) (by kernel_rfl) ?_
            rw [eW7]
            simp only [List.take_succ_cons, List.take_zero, List.drop_succ_cons, List.drop_zero]
            clear eW7
            repeat still_step
            refine wpStill_nil ?_
            have h8 := H7.out.put2 (j := 2) (q := ⟨pl, pn, z⟩) (x := z) HL.out.2.2.2.1 (by omega) rfl (Below.refl _ _)
            rw [eMO] at h8
            have hms : (rs.set i ⟨pl, pn, z⟩)[i]? = some ⟨pl, pn, z⟩ := by rw [List.getElem?_set, if_pos rfl, if_pos (List.getElem?_eq_some_iff.1 HL.out.2.2.2.1).1]
            have hMN : N3 ≠ M := fun e => by
              obtain ⟨_, cur, hc⟩ := H7.out.q.lt
              rw [← e, N7.out] at hc
              injection hc with hc
              simp at hc
            have n8 : (W7.setCell ⟨M, MO + 2, none⟩ (.int .u64 z)).heap[N3]? = some (Obj.cells #[.int .u64 z, .int .u64 z, .int .u64 pu] 26) := (heap_setCell_other _ _ _ _ hMN).trans N7.out
            go_upto_region 31 with fail
            obtain ⟨W8, eW8⟩ : ∃ W8, W7.setCell ⟨M, MO + 2, none⟩ (.int .u64 z) = W8 := ⟨_, rfl⟩
            rw [eW8] at h8 n8
            rw [eW8]
            obtain ⟨W9, eW9⟩ : ∃ W9, W8.drew = W9 := ⟨_, rfl⟩
            have H9 : GS w (.slice (some ⟨B, o, none⟩) m c3) (.slice (some ⟨M, mo, none⟩) m c4) G (rs.set i ⟨pl, pn, z⟩) (rs.set i ⟨pl, pn, z⟩) K f W9 := by rw [← eW9]; exact h8.drew
            have N9 : W9.heap[N3]? = some (Obj.cells #[.int .u64 z, .int .u64 z, .int .u64 pu] 26) := by rw [← eW9]; exact n8
            clear h8 n8 eW8 c0 c1 c2 f0 f1 f2 H7 N7 hMN
            have PVo : ∀ {W' : World} {v1 : Value} {rs' : List Rg} {K' : Nat} {f' : Int → Bool}, GS w v1 (.slice (some ⟨M, mo, none⟩) m c4) G rs' (rs.set i ⟨pl, pn, z⟩) K' f' W' → PV W' M MO pl pn z := fun h => by
              have := rv_pv h.q hms
              rw [eMO] at this
              exact this
            have PVh : ∀ {W' : World}, RV (fun b => w.heap.size ≤ b) 30 3 encR W' (.slice (some ⟨M, mo, none⟩) m c4) (rs.set i ⟨pl, pn, z⟩) → PV W' M MO pl pn z := fun h => by
              have := rv_pv h hms
              rw [eMO] at this
              exact this
            have hX : ∀ oo nn cc, (.slice (some ⟨B, o, none⟩) m c3 : Value) ≠ .slice (some ⟨N3, oo, none⟩) nn cc := fun oo nn cc e => by
              injection e with e1
              injection e1 with e1
              injection e1 with e1
              exact HNB.out e1
            have hL1 : (rs.set i ⟨pl, pn, z⟩).length + 1 ≤ 100000 := by rw [List.length_set]; have := HL.out.2.2.1; omega
            obtain ⟨Wa0, eWa0⟩ : ∃ Wa0, W9.alloc (Obj.cells #[.int .u64 z, .int .u64 z, .int .u64 pu] 26) = Wa0 := ⟨_, rfl⟩
            have bWa0 : Below W9.heap.size W9 Wa0 := by rw [← eWa0]; exact below_alloc1 _ _
            have rWa0 : Wa0.heap[W9.heap.size]? = some (Obj.cells #[.int .u64 z, .int .u64 z, .int .u64 pu] 26) := by rw [← eWa0]; exact heap_alloc_new _ _
            have gWa0 := H9.below bWa0
            have nWa0 := (bWa0.block N3 (Array.getElem?_eq_some_iff.1 N9).1).trans N9
            obtain ⟨vWa1, Wa1, runWa1, gWa1, kWa1, nnWa1⟩ := gWa0.app1 (a := W9.heap.size) (X := N3) (p := (⟨z, z, pu⟩ : Rg)) hX rWa0 hL1
            have nWa1 := nnWa1 _ nWa0
            obtain ⟨Wa2, eWa2⟩ : ∃ Wa2, Wa1.alloc (Obj.cells #[.int .u64 z, .int .u64 z, .int .u64 pu] 30) = Wa2 := ⟨_, rfl⟩
            have bWa2 : Below Wa1.heap.size Wa1 Wa2 := by rw [← eWa2]; exact below_alloc1 _ _
            have rWa2 : Wa2.heap[Wa1.heap.size]? = some (Obj.cells #[.int .u64 z, .int .u64 z, .int .u64 pu] 30) := by rw [← eWa2]; exact heap_alloc_new _ _
            have gWa2 := gWa1.below bWa2
            have nWa2 := (bWa2.block N3 (Array.getElem?_eq_some_iff.1 nWa1).1).trans nWa1
            obtain ⟨vWa3, Wa3, runWa3, gWa3, kWa3, oWa3⟩ := gWa2.app2 (a := Wa1.heap.size) (p := (⟨z, z, pu⟩ : Rg)) rWa2 hL1
            have nWa3 := kWa3 _ _ nWa2 (fun cur e => by simp at e)
            obtain ⟨Wb1, eWb1⟩ : ∃ Wb1, Wa0.alloc (Obj.cells #[.int .u64 z, .int .u64 z, .int .u64 pu] 30) = Wb1 := ⟨_, rfl⟩
            have bWb1 : Below Wa0.heap.size Wa0 Wb1 := by rw [← eWb1]; exact below_alloc1 _ _
            have rWb1 : Wb1.heap[Wa0.heap.size]? = some (Obj.cells #[.int .u64 z, .int .u64 z, .int .u64 pu] 30) := by rw [← eWb1]; exact heap_alloc_new _ _
            have gWb1 := gWa0.below bWb1
            have nWb1 := (bWb1.block N3 (Array.getElem?_eq_some_iff.1 nWa0).1).trans nWa0
            obtain ⟨vWb2, Wb2, runWb2, gWb2, kWb2, nnWb2⟩ := gWb1.app1 (a := W9.heap.size) (X := N3) (p := (⟨z, z, pu⟩ : Rg)) hX ((bWb1.block _ (Array.getElem?_eq_some_iff.1 rWa0).1).trans rWa0) hL1
            have nWb2 := nnWb2 _ nWb1
            obtain ⟨vWb3, Wb3, runWb3, gWb3, kWb3, oWb3⟩ := gWb2.app2 (a := Wa0.heap.size) (p := (⟨z, z, pu⟩ : Rg)) (kWb2 _ _ rWb1 (fun cur e => by simp at e)) hL1
            have nWb3 := kWb3 _ _ nWb2 (fun cur e => by simp at e)
            obtain ⟨Wc0, eWc0⟩ : ∃ Wc0, W9.alloc (Obj.cells #[.int .u64 z, .int .u64 z, .int .u64 pu] 30) = Wc0 := ⟨_, rfl⟩
            have bWc0 : Below W9.heap.size W9 Wc0 := by rw [← eWc0]; exact below_alloc1 _ _
            have rWc0 : Wc0.heap[W9.heap.size]? = some (Obj.cells #[.int .u64 z, .int .u64 z, .int .u64 pu] 30) := by rw [← eWc0]; exact heap_alloc_new _ _
            have gWc0 := H9.below bWc0
            have nWc0 := (bWc0.block N3 (Array.getElem?_eq_some_iff.1 N9).1).trans N9
            obtain ⟨Wc1, eWc1⟩ : ∃ Wc1, Wc0.alloc (Obj.cells #[.int .u64 z, .int .u64 z, .int .u64 pu] 26) = Wc1 := ⟨_, rfl⟩
            have bWc1 : Below Wc0.heap.size Wc0 Wc1 := by rw [← eWc1]; exact below_alloc1 _ _
            have rWc1 : Wc1.heap[Wc0.heap.size]? = some (Obj.cells #[.int .u64 z, .int .u64 z, .int .u64 pu] 26) := by rw [← eWc1]; exact heap_alloc_new _ _
            have gWc1 := gWc0.below bWc1
            have nWc1 := (bWc1.block N3 (Array.getElem?_eq_some_iff.1 nWc0).1).trans nWc0
            obtain ⟨vWc2, Wc2, runWc2, gWc2, kWc2, nnWc2⟩ := gWc1.app1 (a := Wc0.heap.size) (X := N3) (p := (⟨z, z, pu⟩ : Rg)) hX rWc1 hL1
            have nWc2 := nnWc2 _ nWc1
            obtain ⟨vWc3, Wc3, runWc3, gWc3, kWc3, oWc3⟩ := gWc2.app2 (a := W9.heap.size) (p := (⟨z, z, pu⟩ : Rg)) (kWc2 _ _ ((bWc1.block _ (Array.getElem?_eq_some_iff.1 rWc0).1).trans rWc0) (fun cur e => by simp at e)) hL1
            have nWc3 := kWc3 _ _ nWc2 (fun cur e => by simp at e)
            have SWa0 := Lib.hid (And.intro (PVo gWa0) nWa0)
            have SWa1 := Lib.hid (And.intro (PVo gWa1) nWa1)
            have SWa2 := Lib.hid (And.intro (PVo gWa2) nWa2)
            have SWb1 := Lib.hid (And.intro (PVo gWb1) nWb1)
            have SWb2 := Lib.hid (And.intro (PVo gWb2) nWb2)
            have SWc0 := Lib.hid (And.intro (PVo gWc0) nWc0)
            have SWc1 := Lib.hid (And.intro (PVo gWc1) nWc1)
            have SWc2 := Lib.hid (And.intro (PVo gWc2) nWc2)
            have SWa3 := Lib.hid (And.intro (PVh oWa3) nWa3)
            have SWb3 := Lib.hid (And.intro (PVh oWb3) nWb3)
            have SWc3 := Lib.hid (And.intro (PVh oWc3) nWc3)
            have SW9 := And.intro (PVo H9) N9
            have EWa0 := Lib.hid eWa0
            have RWa1 := Lib.hid runWa1
            have EWa2 := Lib.hid eWa2
            have RWa3 := Lib.hid runWa3
            have FWa3 := Lib.hid gWa3
            have EWb1 := Lib.hid eWb1
            have RWb2 := Lib.hid runWb2
            have RWb3 := Lib.hid runWb3
            have FWb3 := Lib.hid gWb3
            have EWc0 := Lib.hid eWc0
            have EWc1 := Lib.hid eWc1
            have RWc2 := Lib.hid runWc2
            have RWc3 := Lib.hid runWc3
            have FWc3 := Lib.hid gWc3
            clear H9 N9 PVo PVh hX hL1 hms eWa0 bWa0 rWa0 gWa0 nWa0 eWa2 bWa2 rWa2 gWa2 nWa2 eWb1 bWb1 rWb1 gWb1 nWb1 eWc0 bWc0 rWc0 gWc0 nWc0 eWc1 bWc1 rWc1 gWc1 nWc1 runWa1 gWa1 kWa1 nnWa1 nWa1 runWb2 gWb2 kWb2 nnWb2 nWb2 runWc2 gWc2 kWc2 nnWc2 nWc2 runWa3 gWa3 kWa3 oWa3 nWa3 runWb3 gWb3 kWb3 oWb3 nWb3 runWc3 gWc3 kWc3 oWc3 nWc3
            refine region_AU (Z := fun j => !(j == 1 || j == 2 || j == 3 || j == 9 || j == 14 || j == 19 || j == 22 || j == 23 || j == 24 || j == 25 || j == 26)) (S := (fun W => PV W M MO pl pn z ∧ W.heap[N3]? = some (Obj.cells #[.int .u64 z, .int .u64 z, .int .u64 pu] 26))) (by kernel_rfl) (by rw [eW9]; exact SW9) (fun hHeld => ?_)
            rw [eW9] at hHeld ⊢
            clear eW9 SW9
            refine AUP_take (i := 0) (oi := _) (v := ?vw0) rfl rfl (by kernel_rfl) (by kernel_rfl) (by kernel_rfl) (fun _ _ _ h => h) (Or.inl ⟨by rfl, ?hz0⟩) ?rst0
            case hz0 => (intro wS hSw; go_simp; try with_reducible rfl)
            simp only [Act.put, List.getElem_toArray, List.getElem_cons_zero, List.getElem_cons_succ, List.setIfInBounds_toArray, List.set_cons_zero, List.set_cons_succ]
            refine AUP_take (i := 4) (oi := _) (v := ?vw4) rfl rfl (by kernel_rfl) (by kernel_rfl) (by kernel_rfl) (fun _ _ _ h => h) (Or.inl ⟨by rfl, ?hz4⟩) ?rst4
            case hz4 => (intro wS hSw; go_simp; try with_reducible rfl)
            simp only [Act.put, List.getElem_toArray, List.getElem_cons_zero, List.getElem_cons_succ, List.setIfInBounds_toArray, List.set_cons_zero, List.set_cons_succ]
            refine AUP_take (i := 5) (oi := _) (v := ?vw5) rfl rfl (by kernel_rfl) (by kernel_rfl) (by kernel_rfl) (fun _ _ _ h => h) (Or.inl ⟨by rfl, ?hz5⟩) ?rst5
            case hz5 => (intro wS hSw; go_simp; try with_reducible rfl)
            simp only [Act.put, List.getElem_toArray, List.getElem_cons_zero, List.getElem_cons_succ, List.setIfInBounds_toArray, List.set_cons_zero, List.set_cons_succ]
            refine AUP_take (i := 6) (oi := _) (v := ?vw6) rfl rfl (by kernel_rfl) (by kernel_rfl) (by kernel_rfl) (fun _ _ _ h => h) (Or.inl ⟨by rfl, ?hz6⟩) ?rst6
            case hz6 => (intro wS hSw; go_simp; try with_reducible rfl)
            simp only [Act.put, List.getElem_toArray, List.getElem_cons_zero, List.getElem_cons_succ, List.setIfInBounds_toArray, List.set_cons_zero, List.set_cons_succ]
            refine AUP_take (i := 10) (oi := _) (v := ?vw10) rfl rfl (by kernel_rfl) (by kernel_rfl) (by kernel_rfl) (fun _ _ _ h => h) (Or.inl ⟨by rfl, ?hz10⟩) ?rst10
            case hz10 => (intro wS hSw; go_simp; try with_reducible rfl)
            simp only [Act.put, List.getElem_toArray, List.getElem_cons_zero, List.getElem_cons_succ, List.setIfInBounds_toArray, List.set_cons_zero, List.set_cons_succ]
            refine AUP_take (i := 11) (oi := _) (v := ?vw11) rfl rfl (by kernel_rfl) (by kernel_rfl) (by kernel_rfl) (fun _ _ _ h => h) (Or.inl ⟨by rfl, ?hz11⟩) ?rst11
            case hz11 => (intro wS hSw; go_simp; try with_reducible rfl)
            simp only [Act.put, List.getElem_toArray, List.getElem_cons_zero, List.getElem_cons_succ, List.setIfInBounds_toArray, List.set_cons_zero, List.set_cons_succ]
            refine AUP_take (i := 15) (oi := _) (v := ?vw15) rfl rfl (by kernel_rfl) (by kernel_rfl) (by kernel_rfl) (fun _ _ _ h => h) (Or.inl ⟨by rfl, ?hz15⟩) ?rst15
            case hz15 => (intro wS hSw; go_simp; try with_reducible rfl)
            simp only [Act.put, List.getElem_toArray, List.getElem_cons_zero, List.getElem_cons_succ, List.setIfInBounds_toArray, List.set_cons_zero, List.set_cons_succ]
            refine AUP_take (i := 16) (oi := _) (v := ?vw16) rfl rfl (by kernel_rfl) (by kernel_rfl) (by kernel_rfl) (fun _ _ _ h => h) (Or.inl ⟨by rfl, ?hz16⟩) ?rst16
            case hz16 => (intro wS hSw; go_simp; try with_reducible rfl)
            simp only [Act.put, List.getElem_toArray, List.getElem_cons_zero, List.getElem_cons_succ, List.setIfInBounds_toArray, List.set_cons_zero, List.set_cons_succ]
            refine AUP_take (i := 20) (oi := _) (v := ?vw20) rfl rfl (by kernel_rfl) (by kernel_rfl) (by kernel_rfl) (fun _ _ _ h => h) (Or.inl ⟨by rfl, ?hz20⟩) ?rst20
            case hz20 => (intro wS hSw; go_simp; try with_reducible rfl)
            simp only [Act.put, List.getElem_toArray, List.getElem_cons_zero, List.getElem_cons_succ, List.setIfInBounds_toArray, List.set_cons_zero, List.set_cons_succ]
            refine AUP_take (i := 21) (oi := _) (v := ?vw21) rfl rfl (by kernel_rfl) (by kernel_rfl) (by kernel_rfl) (fun _ _ _ h => h) (Or.inl ⟨by rfl, ?hz21⟩) ?rst21
            case hz21 => (intro wS hSw; go_simp; try with_reducible rfl)
            simp only [Act.put, List.getElem_toArray, List.getElem_cons_zero, List.getElem_cons_succ, List.setIfInBounds_toArray, List.set_cons_zero, List.set_cons_succ]
            refine AUP_take (i := 7) (oi := _) (v := ?vw7) rfl rfl (by kernel_rfl) (by kernel_rfl) (by kernel_rfl) (fun _ _ _ h => h) (Or.inl ⟨by rfl, ?hz7⟩) ?rst7
            case hz7 => (intro wS hSw; go_simp; try with_reducible rfl)
            simp only [Act.put, List.getElem_toArray, List.getElem_cons_zero, List.getElem_cons_succ, List.setIfInBounds_toArray, List.set_cons_zero, List.set_cons_succ]
            refine AUP_take (i := 8) (oi := _) (v := ?vw8) rfl rfl (by kernel_rfl) (by kernel_rfl) (by kernel_rfl) (fun _ _ _ h => h) (Or.inl ⟨by rfl, ?hz8⟩) ?rst8
            case hz8 => (intro wS hSw; go_simp; try with_reducible rfl)
            simp only [Act.put, List.getElem_toArray, List.getElem_cons_zero, List.getElem_cons_succ, List.setIfInBounds_toArray, List.set_cons_zero, List.set_cons_succ]
            refine AUP_take (i := 12) (oi := _) (v := ?vw12) rfl rfl (by kernel_rfl) (by kernel_rfl) (by kernel_rfl) (fun _ _ _ h => h) (Or.inl ⟨by rfl, ?hz12⟩) ?rst12
            case hz12 => (intro wS hSw; go_simp; try with_reducible rfl)
            simp only [Act.put, List.getElem_toArray, List.getElem_cons_zero, List.getElem_cons_succ, List.setIfInBounds_toArray, List.set_cons_zero, List.set_cons_succ]
            refine AUP_take (i := 13) (oi := _) (v := ?vw13) rfl rfl (by kernel_rfl) (by kernel_rfl) (by kernel_rfl) (fun _ _ _ h => h) (Or.inl ⟨by rfl, ?hz13⟩) ?rst13
            case hz13 => (intro wS hSw; go_simp; try with_reducible rfl)
            simp only [Act.put, List.getElem_toArray, List.getElem_cons_zero, List.getElem_cons_succ, List.setIfInBounds_toArray, List.set_cons_zero, List.set_cons_succ]
            refine AUP_take (i := 17) (oi := _) (v := ?vw17) rfl rfl (by kernel_rfl) (by kernel_rfl) (by kernel_rfl) (fun _ _ _ h => h) (Or.inl ⟨by rfl, ?hz17⟩) ?rst17
            case hz17 => (intro wS hSw; go_simp; try with_reducible rfl)
            simp only [Act.put, List.getElem_toArray, List.getElem_cons_zero, List.getElem_cons_succ, List.setIfInBounds_toArray, List.set_cons_zero, List.set_cons_succ]
            refine AUP_take (i := 18) (oi := _) (v := ?vw18) rfl rfl (by kernel_rfl) (by kernel_rfl) (by kernel_rfl) (fun _ _ _ h => h) (Or.inl ⟨by rfl, ?hz18⟩) ?rst18
            case hz18 => (intro wS hSw; go_simp; try with_reducible rfl)
            simp only [Act.put, List.getElem_toArray, List.getElem_cons_zero, List.getElem_cons_succ, List.setIfInBounds_toArray, List.set_cons_zero, List.set_cons_succ]
            refine AUS_take (by kernel_rfl) rfl (i := 9) (oi := _) (v := ?vw9) rfl (by kernel_rfl) (by kernel_rfl) (by kernel_rfl) (fun _ _ _ h => h) (Or.inl ⟨by rfl, ?hz9⟩) hHeld ?rst9
            case hz9 => (intro wS hSw; obtain ⟨f0, f1, f2, _, _, _⟩ := hSw.1; clear hSw; go_simp; try with_reducible rfl)
            simp only [Act.put, List.getElem_toArray, List.getElem_cons_zero, List.getElem_cons_succ, List.setIfInBounds_toArray, List.set_cons_zero, List.set_cons_succ]
            refine AUS_take (by kernel_rfl) rfl (i := 14) (oi := _) (v := ?vw14) rfl (by kernel_rfl) (by kernel_rfl) (by kernel_rfl) (fun _ _ _ h => h) (Or.inl ⟨by rfl, ?hz14⟩) hHeld ?rst14
            case hz14 => (intro wS hSw; obtain ⟨f0, f1, f2, _, _, _⟩ := hSw.1; clear hSw; go_simp; try with_reducible rfl)
            simp only [Act.put, List.getElem_toArray, List.getElem_cons_zero, List.getElem_cons_succ, List.setIfInBounds_toArray, List.set_cons_zero, List.set_cons_succ]
            refine AUS_take (by kernel_rfl) rfl (i := 19) (oi := _) (v := ?vw19) rfl (by kernel_rfl) (by kernel_rfl) (by kernel_rfl) (fun _ _ _ h => h) (Or.inl ⟨by rfl, ?hz19⟩) hHeld ?rst19
            case hz19 => (intro wS hSw; obtain ⟨f0, f1, f2, _, _, _⟩ := hSw.1; clear hSw; go_simp; try with_reducible rfl)
            simp only [Act.put, List.getElem_toArray, List.getElem_cons_zero, List.getElem_cons_succ, List.setIfInBounds_toArray, List.set_cons_zero, List.set_cons_succ]
            refine AUS_take (by kernel_rfl) rfl (i := 1) (oi := _) (v := ?vw1) rfl (by kernel_rfl) (by kernel_rfl) (by kernel_rfl) (fun _ _ _ h => h) (Or.inl ⟨by rfl, ?hz1⟩) hHeld ?rst1
            case hz1 => (intro wS hSw; have f0 : wS.cell? ⟨N3, 0, none⟩ = some (.int .u64 z) := (by rw [cell_of_row _ _ 0 _ _ (0, 0) hSw.2]; rfl); have f1 : wS.cell? ⟨N3, 1, none⟩ = some (.int .u64 z) := (by rw [cell_of_row _ _ 1 _ _ (0, 0) hSw.2]; rfl); have f2 : wS.cell? ⟨N3, 2, none⟩ = some (.int .u64 pu) := (by rw [cell_of_row _ _ 2 _ _ (0, 0) hSw.2]; rfl); clear hSw; go_simp; try with_reducible rfl)
            simp only [Act.put, List.getElem_toArray, List.getElem_cons_zero, List.getElem_cons_succ, List.setIfInBounds_toArray, List.set_cons_zero, List.set_cons_succ]
            refine AUS_take (by kernel_rfl) rfl (i := 22) (oi := _) (v := ?vw22) rfl (by kernel_rfl) (by kernel_rfl) (by kernel_rfl) (fun _ _ _ h => h) (Or.inl ⟨by rfl, ?hz22⟩) hHeld ?rst22
            case hz22 => (intro wS hSw; clear hSw; go_simp; try with_reducible rfl)
            simp only [Act.put, List.getElem_toArray, List.getElem_cons_zero, List.getElem_cons_succ, List.setIfInBounds_toArray, List.set_cons_zero, List.set_cons_succ]
            refine AUS_take (by kernel_rfl) rfl (i := 23) (oi := _) (v := ?vw23) rfl (by kernel_rfl) (by kernel_rfl) (by kernel_rfl) (fun _ _ _ h => h) (Or.inl ⟨by rfl, ?hz23⟩) hHeld ?rst23
            case hz23 => (intro wS hSw; clear hSw; go_simp; try with_reducible rfl)
            simp only [Act.put, List.getElem_toArray, List.getElem_cons_zero, List.getElem_cons_succ, List.setIfInBounds_toArray, List.set_cons_zero, List.set_cons_succ]
            refine AU_two (i := 2) (j := 24) (oi := _) (oj := _) (by kernel_rfl) rfl rfl (fun K hK => ?_) (fun K hK => ?_)
            · as_aux_lemma =>
              go_simp
              rw [EWa0.out]
              refine hK.out _ _ (fun _ => SWa0.out) ?_
              clear hK K
              try simp only [Act.put, List.getElem_toArray, List.getElem_cons_zero, List.getElem_cons_succ, List.setIfInBounds_toArray, List.set_cons_zero, List.set_cons_succ]
              refine AU_two (i := 3) (j := 24) (oi := _) (oj := _) (by kernel_rfl) rfl rfl (fun K hK => ?_) (fun K hK => ?_)
              · as_aux_lemma =>
                refine step_append rfl (.tmp 151) (.tmp 153) 29 29 rfl _ _ _ rfl rfl Wa1 RWa1.out ?_
                refine hK.out _ _ (fun _ => SWa1.out) ?_
                clear hK K
                try simp only [Act.put, List.getElem_toArray, List.getElem_cons_zero, List.getElem_cons_succ, List.setIfInBounds_toArray, List.set_cons_zero, List.set_cons_succ]
                refine AU_one (i := 24) (o := _) (by kernel_rfl) rfl (fun K hK => ?_)
                go_simp
                rw [EWa2.out]
                refine hK.out _ _ (fun _ => SWa2.out) ?_
                clear hK K
                try simp only [Act.put, List.getElem_toArray, List.getElem_cons_zero, List.getElem_cons_succ, List.setIfInBounds_toArray, List.set_cons_zero, List.set_cons_succ]
                refine AU_one (i := 25) (o := _) (by kernel_rfl) rfl (fun K hK => ?_)
                refine step_append rfl (.tmp 155) (.tmp 175) 31 31 rfl _ _ _ rfl rfl Wa3 RWa3.out ?_
                refine hK.out _ _ (fun _ => SWa3.out) ?_
                clear hK K
                try simp only [Act.put, List.getElem_toArray, List.getElem_cons_zero, List.getElem_cons_succ, List.setIfInBounds_toArray, List.set_cons_zero, List.set_cons_succ]
                obtain ⟨Af, lf, cf, rfl⟩ : ∃ A l c, vWa1 = .slice A l c := by obtain ⟨A, c, h, _⟩ := RV.form FWa3.out.r; exact ⟨A, _, c, h⟩
                obtain ⟨Ag, lg, cg, rfl⟩ : ∃ A l c, vWa3 = .slice A l c := by obtain ⟨A, c, h, _⟩ := RV.form FWa3.out.q; exact ⟨A, _, c, h⟩
                refine AU_one (i := 26) (o := _) (by kernel_rfl) rfl (fun K hK => ?_)
                go_simp
                refine hK.out _ _ (fun _ => SWa3.out) ?_
                clear hK K
                try simp only [Act.put, List.getElem_toArray, List.getElem_cons_zero, List.getElem_cons_succ, List.setIfInBounds_toArray, List.set_cons_zero, List.set_cons_succ]
                refine AU_one (i := 27) (o := _) (by kernel_rfl) rfl (fun K hK => ?_)
                go_simp
                refine hK.out _ _ (fun h => absurd h (by decide)) ?_
                clear hK K
                try simp only [Act.put, List.getElem_toArray, List.getElem_cons_zero, List.getElem_cons_succ, List.setIfInBounds_toArray, List.set_cons_zero, List.set_cons_succ]
                refine AU_done (by kernel_rfl) ?_ _
                simp only [OnlyN]
                go_wp2_with fail
                go_meet
                exact ⟨_, _, _, _, rfl, Lib.hid ⟨FWa3.out, HS.out.2, fun p hp => by
                  rcases List.mem_append.1 hp with h1 | h1
                  · rcases List.mem_or_eq_of_mem_set h1 with h2 | rfl
                    · exact HL.out.2.1 p h2
                    · exact HS.out.1.1
                  · rw [List.mem_singleton.1 h1]; exact HS.out.1.2, by rw [List.length_append, List.length_set]; have := HL.out.2.2.1; simp; omega, by rw [List.length_append, List.length_set]; simp, by have := HL.out.2.2.1; omega⟩⟩
              · as_aux_lemma =>
                go_simp
                rw [EWb1.out]
                refine hK.out _ _ (fun _ => SWb1.out) ?_
                clear hK K
                try simp only [Act.put, List.getElem_toArray, List.getElem_cons_zero, List.getElem_cons_succ, List.setIfInBounds_toArray, List.set_cons_zero, List.set_cons_succ]
                refine AU_one (i := 3) (o := _) (by kernel_rfl) rfl (fun K hK => ?_)
                refine step_append rfl (.tmp 151) (.tmp 153) 29 29 rfl _ _ _ rfl rfl Wb2 RWb2.out ?_
                refine hK.out _ _ (fun _ => SWb2.out) ?_
                clear hK K
                try simp only [Act.put, List.getElem_toArray, List.getElem_cons_zero, List.getElem_cons_succ, List.setIfInBounds_toArray, List.set_cons_zero, List.set_cons_succ]
                refine AU_one (i := 25) (o := _) (by kernel_rfl) rfl (fun K hK => ?_)
                refine step_append rfl (.tmp 155) (.tmp 175) 31 31 rfl _ _ _ rfl rfl Wb3 RWb3.out ?_
                refine hK.out _ _ (fun _ => SWb3.out) ?_
                clear hK K
                try simp only [Act.put, List.getElem_toArray, List.getElem_cons_zero, List.getElem_cons_succ, List.setIfInBounds_toArray, List.set_cons_zero, List.set_cons_succ]
                obtain ⟨Af, lf, cf, rfl⟩ : ∃ A l c, vWb2 = .slice A l c := by obtain ⟨A, c, h, _⟩ := RV.form FWb3.out.r; exact ⟨A, _, c, h⟩
                obtain ⟨Ag, lg, cg, rfl⟩ : ∃ A l c, vWb3 = .slice A l c := by obtain ⟨A, c, h, _⟩ := RV.form FWb3.out.q; exact ⟨A, _, c, h⟩
                refine AU_one (i := 26) (o := _) (by kernel_rfl) rfl (fun K hK => ?_)
                go_simp
                refine hK.out _ _ (fun _ => SWb3.out) ?_
                clear hK K
                try simp only [Act.put, List.getElem_toArray, List.getElem_cons_zero, List.getElem_cons_succ, List.setIfInBounds_toArray, List.set_cons_zero, List.set_cons_succ]
                refine AU_one (i := 27) (o := _) (by kernel_rfl) rfl (fun K hK => ?_)
                go_simp
                refine hK.out _ _ (fun h => absurd h (by decide)) ?_
                clear hK K
                try simp only [Act.put, List.getElem_toArray, List.getElem_cons_zero, List.getElem_cons_succ, List.setIfInBounds_toArray, List.set_cons_zero, List.set_cons_succ]
                refine AU_done (by kernel_rfl) ?_ _
                simp only [OnlyN]
                go_wp2_with fail
                go_meet
                exact ⟨_, _, _, _, rfl, Lib.hid ⟨FWb3.out, HS.out.2, fun p hp => by
                  rcases List.mem_append.1 hp with h1 | h1
                  · rcases List.mem_or_eq_of_mem_set h1 with h2 | rfl
                    · exact HL.out.2.1 p h2
                    · exact HS.out.1.1
                  · rw [List.mem_singleton.1 h1]; exact HS.out.1.2, by rw [List.length_append, List.length_set]; have := HL.out.2.2.1; simp; omega, by rw [List.length_append, List.length_set]; simp, by have := HL.out.2.2.1; omega⟩⟩
            · as_aux_lemma =>
              go_simp
              rw [EWc0.out]
              refine hK.out _ _ (fun _ => SWc0.out) ?_
              clear hK K
              try simp only [Act.put, List.getElem_toArray, List.getElem_cons_zero, List.getElem_cons_succ, List.setIfInBounds_toArray, List.set_cons_zero, List.set_cons_succ]
              refine AU_one (i := 2) (o := _) (by kernel_rfl) rfl (fun K hK => ?_)
              go_simp
              rw [EWc1.out]
              refine hK.out _ _ (fun _ => SWc1.out) ?_
              clear hK K
              try simp only [Act.put, List.getElem_toArray, List.getElem_cons_zero, List.getElem_cons_succ, List.setIfInBounds_toArray, List.set_cons_zero, List.set_cons_succ]
              refine AU_one (i := 3) (o := _) (by kernel_rfl) rfl (fun K hK => ?_)
              refine step_append rfl (.tmp 151) (.tmp 153) 29 29 rfl _ _ _ rfl rfl Wc2 RWc2.out ?_
              refine hK.out _ _ (fun _ => SWc2.out) ?_
              clear hK K
              try simp only [Act.put, List.getElem_toArray, List.getElem_cons_zero, List.getElem_cons_succ, List.setIfInBounds_toArray, List.set_cons_zero, List.set_cons_succ]
              refine AU_one (i := 25) (o := _) (by kernel_rfl) rfl (fun K hK => ?_)
              refine step_append rfl (.tmp 155) (.tmp 175) 31 31 rfl _ _ _ rfl rfl Wc3 RWc3.out ?_
              refine hK.out _ _ (fun _ => SWc3.out) ?_
              clear hK K
              try simp only [Act.put, List.getElem_toArray, List.getElem_cons_zero, List.getElem_cons_succ, List.setIfInBounds_toArray, List.set_cons_zero, List.set_cons_succ]
              obtain ⟨Af, lf, cf, rfl⟩ : ∃ A l c, vWc2 = .slice A l c := by obtain ⟨A, c, h, _⟩ := RV.form FWc3.out.r; exact ⟨A, _, c, h⟩
              obtain ⟨Ag, lg, cg, rfl⟩ : ∃ A l c, vWc3 = .slice A l c := by obtain ⟨A, c, h, _⟩ := RV.form FWc3.out.q; exact ⟨A, _, c, h⟩
              refine AU_one (i := 26) (o := _) (by kernel_rfl) rfl (fun K hK => ?_)
              go_simp
              refine hK.out _ _ (fun _ => SWc3.out) ?_
              clear hK K
              try simp only [Act.put, List.getElem_toArray, List.getElem_cons_zero, List.getElem_cons_succ, List.setIfInBounds_toArray, List.set_cons_zero, List.set_cons_succ]
              refine AU_one (i := 27) (o := _) (by kernel_rfl) rfl (fun K hK => ?_)
              go_simp
              refine hK.out _ _ (fun h => absurd h (by decide)) ?_
              clear hK K
              try simp only [Act.put, List.getElem_toArray, List.getElem_cons_zero, List.getElem_cons_succ, List.setIfInBounds_toArray, List.set_cons_zero, List.set_cons_succ]
              refine AU_done (by kernel_rfl) ?_ _
              simp only [OnlyN]
              go_wp2_with fail
              go_meet
              exact ⟨_, _, _, _, rfl, Lib.hid ⟨FWc3.out, HS.out.2, fun p hp => by
                rcases List.mem_append.1 hp with h1 | h1
                · rcases List.mem_or_eq_of_mem_set h1 with h2 | rfl
                  · exact HL.out.2.1 p h2
                  · exact HS.out.1.1
                · rw [List.mem_singleton.1 h1]; exact HS.out.1.2, by rw [List.length_append, List.length_set]; have := HL.out.2.2.1; simp; omega, by rw [List.length_append, List.length_set]; simp, by have := HL.out.2.2.1; omega⟩⟩
          · as_aux_lemma =>
            have hpv := rv_pv H2.out.r HL.out.2.2.2.1
            rw [eO] at hpv
            have C := Lib.hid (split_bad (k := x) HL.out.2.2.2.2.1 (by have := HL.out.2.2.2.2.2; omega) hpv)
            have HQ := Lib.hid (show ¬ (0 ≤ x ∧ x ≤ r) from hx)
            clear hpv hx
            by_cases hx0 : x ≥ 0
            · have hx0' : 0 ≤ x := hx0
              have hxr : ¬ x ≤ r := fun h => HQ.out ⟨hx0, h⟩
              go_wp2_with fail
              refine C.out.mono ?_; rintro e w5 ⟨rfl, hb⟩
              have H5 := Lib.hid ((H2.out.below hb).below (below_alloc1 w5 (Obj.cells #[.int .u64 0, .int .u64 0, .int .u64 0] 26)))
              obtain ⟨c0, c1, c2, _, _, _⟩ := PV.new w5 0 0 0
              clear hb C H2
              go_wp2_with fail
              go_meet
              exact ⟨_, _, _, _, rfl, Lib.hid ⟨H5.out, HL.out.1, HL.out.2.1, by have := HL.out.2.2.1; omega, by have := HL.out.2.2.1; omega, by have := HL.out.2.2.1; omega⟩⟩
            · have hx0' : ¬ 0 ≤ x := hx0
              go_wp2_with fail
              refine C.out.mono ?_; rintro e w5 ⟨rfl, hb⟩
              have H5 := Lib.hid ((H2.out.below hb).below (below_alloc1 w5 (Obj.cells #[.int .u64 0, .int .u64 0, .int .u64 0] 26)))
              obtain ⟨c0, c1, c2, _, _, _⟩ := PV.new w5 0 0 0
              clear hb C H2
              go_wp2_with fail
              go_meet
              exact ⟨_, _, _, _, rfl, Lib.hid ⟨H5.out, HL.out.1, HL.out.2.1, by have := HL.out.2.2.1; omega, by have := HL.out.2.2.1; omega, by have := HL.out.2.2.1; omega⟩⟩
      case rest =>
        clear HF H2
        obtain ⟨rs2, K2, f2, wz, rfl, HG⟩ := hcut
        obtain ⟨B5, o5, c5, rfl, hc5, hcm5, _, _⟩ := rv_form HG.out.1.r HG.out.2.2.2.2.1
        obtain ⟨B6, o6, c6, rfl, hc6, hcm6, _, _⟩ := rv_form HG.out.1.q HG.out.2.2.2.2.1
        obtain ⟨m2, em2⟩ : ∃ m2, rs2.length = m2 := ⟨_, rfl⟩
        have hcm5' : c5 ≤ 9223372036854775807 := hcm5
        have hcm6' : c6 ≤ 9223372036854775807 := hcm6
        rw [em2] at hc5 hc6 HG
        rw [em2]
        have HN := Lib.hid (And.intro em2 (show m2 ≤ 300 by have := HG.out.2.2.2.1; omega))
        clear em2
        go_wp2_with fail
        go_loopg [179] m2 (fun gh i wx => ∃ j : Nat, j ≤ m2 ∧ gh = m2 - j ∧ i = .int .i64 j ∧ Hid (GS w (.slice (some ⟨B5, o5, none⟩) m2 c5) (.slice (some ⟨B6, o6, none⟩) m2 c6) G rs2 rs2 K2 f2 wx))
        case atStart => exact ⟨0, by omega, by omega, rfl, Lib.hid HG.out.1⟩
        case round =>
          obtain ⟨j, hj, hg, rfl, hI⟩ := hrel
          by_cases hlt2 : j < m2
          · have j1 : IntKind.i64.wrap ((j : Int) + 1) = (j : Int) + 1 := by have := HN.out.2; rw [IntKind.wrap_i64]; omega
            have l5 : (j : Int) < m2 := by omega
            obtain ⟨⟨sl, sn, su⟩, hs⟩ : ∃ p, rs2[j]? = some p := ⟨_, List.getElem?_eq_getElem (by rw [HN.out.1]; exact hlt2)⟩
            have hok : Ok sl sn su := HG.out.2.2.1 _ (List.mem_of_getElem? hs)
            have hpv := rv_pv hI.out.r hs
            have hpv2 := rv_pv hI.out.q hs
            obtain ⟨O5, eO5⟩ : ∃ O5, o5 + j * 3 = O5 := ⟨_, rfl⟩
            obtain ⟨O6, eO6⟩ : ∃ O6, o6 + j * 3 = O6 := ⟨_, rfl⟩
            rw [eO5] at hpv
            rw [eO6] at hpv2
            obtain ⟨s5, es5⟩ : ∃ s5, su - sn = s5 := ⟨_, rfl⟩
            have j2 : IntKind.u64.wrap (su - sn) = s5 := by unfold Ok at hok; rw [IntKind.wrap_u64]; omega
            have j3 : IntKind.i64.wrap s5 = s5 := by unfold Ok at hok; rw [IntKind.wrap_i64]; omega
            have CR := Lib.hid (fun W => right_ok hok W)
            have CL := fun W => left_ok hok W
            rw [es5] at CL
            have CL := Lib.hid CL
            have bb := below_alloc1 wr (Obj.cells #[.int .u64 sl, .int .u64 sn, .int .u64 su] 26)
            have N1 := Lib.hid (PV.new wr sl sn su)
            have N2 := Lib.hid (hpv2.below bb)
            have HB2 := Lib.hid (hI.out.below bb)
            obtain ⟨p0, p1, p2, _, _, _⟩ := hpv
            clear hs hok hpv2 es5 bb hI
            go_upto_region 35 with fail
            obtain ⟨Nx, eNx⟩ : ∃ Nx, wr.heap.size = Nx := ⟨_, rfl⟩
            obtain ⟨Wx, eWx⟩ : ∃ Wx, wr.alloc (Obj.cells #[.int .u64 sl, .int .u64 sn, .int .u64 su] 26) = Wx := ⟨_, rfl⟩
            rw [eNx, eWx] at N1
            rw [eWx] at N2 HB2
            rw [eNx, eWx]
            clear eNx eWx p0 p1 p2
            have k0 := cell_regrown N1.out.c0
            have k1 := cell_regrown N1.out.c1
            have k2 := cell_regrown N1.out.c2
            have k3 := cell_regrown N2.out.c0
            have k4 := cell_regrown N2.out.c1
            have k5 := cell_regrown N2.out.c2
            have Q1 : Hid (∀ d os, Calls Try.prog 11 #[.agg #[.int .u64 sl, .int .u64 sn, .int .u64 su]] (Sort.grow (redrawn Wx d) os) fun e w'' => e = .returned (.bool true) ∧ ∃ p : Regrown, w'' = Sort.grow (redrawn Wx p.d) p.os) := Lib.hid (fun d os => Calls.regrown_of (CR.out _))
            have Q2 : Hid (∀ d os, Calls Try.prog 12 #[.agg #[.int .u64 sl, .int .u64 sn, .int .u64 su]] (Sort.grow (redrawn Wx d) os) fun e w'' => e = .returned (.int .i64 s5) ∧ ∃ p : Regrown, w'' = Sort.grow (redrawn Wx p.d) p.os) := Lib.hid (fun d os => Calls.regrown_of (CL.out _))
            clear CR CL
            refine wp_region_quiet_below (by kernel_rfl) (by kernel_rfl) ?_
            repeat (quiet_step (first | with_reducible exact Q1.out _ _ | with_reducible exact Q2.out _ _))
            refine wpQuiet_nil ?_
            intro _ hw'
            obtain ⟨⟨dq, osq⟩, hw''⟩ := hw'
            subst hw''
            go_wp2_with fail
            go_roundg (m2 - (j + 1))
            case rel => exact ⟨j + 1, by omega, rfl, by simp, Lib.hid (HB2.out.below (below_regrown Wx dq osq))⟩
            case measure => first | omega | (simp; omega)
          · obtain rfl : j = m2 := by omega
            clear hlt2 hj hg
            go_wp2_with fail
            go_roundg (n - (k + 1))
            case rel => exact ⟨k + 1, by omega, rfl, by simp, Lib.hid ⟨rs2, K2, f2, hI.out, HG.out.2.1, HG.out.2.2.1, by rw [HN.out.1]; exact HG.out.2.2.2.1, by rw [HN.out.1]; exact HG.out.2.2.2.2.1, HG.out.2.2.2.2.2⟩⟩
            case measure => first | omega | (simp; omega)
    · obtain rfl : k = n := by omega
      clear hlt hk hg
      obtain ⟨rs, K, f, ht, _⟩ := hI.out
      have HB := Lib.hid ht.b
      clear hI ht
      go_wp2_with fail
      go_ret
      exact ⟨by simp, HB.out⟩
end Go.Proofs.Ytkbhcfldnfnlaaa
