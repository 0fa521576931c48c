/- RingRuns. -/
import Derived.Test.YtoccgbfnbpkphaaRq
import Derived.BigQuiet
set_option linter.unusedVariables false
set_option linter.unusedSimpArgs false
namespace Go.Proofs.Ytoccgbfnbpkphaa
open Go.RowKit Rn
set_option linter.unusedVariables false
set_option linter.unusedSimpArgs false
attribute [local go_sem] Oper.semAt_some
/-- What the law's loop keeps, k calls on. -/
def LI (W : World) (BT BL R k lo : Nat) (vo : Value) (w : World) : Prop := ∃ T ps us vl, QS W BT BL R T ps lo us ps us vl vo w ∧ us.length ≤ k ∧ lo ≤ k
set_option maxRecDepth 100000 in
set_option maxHeartbeats 4000000 in
theorem runs_all (A : Option Addr) (l c : Nat) (xs : List Cl) (w : World) (hn : xs.length = l) (hm : l ≤ 300) (hr : Cls w A xs) :
    Calls Try.prog 3 #[.slice A l c] w fun e w' => e = .returned (.bool true) ∧ Below w.heap.size w w' := by
  have B := Lib.hid fit_any
  have h300 : ¬ (300 : Int) < l := by omega
  have HA := Lib.hid (And.intro hn (And.intro hr hm))
  have zv := zero_ring
  obtain ⟨Z, eZ⟩ : ∃ Z, zr.toArray = Z := ⟨_, rfl⟩
  rw [eZ] at zv
  have EZ := Lib.hid eZ
  clear eZ hn hr hm
  refine (callsIn_wide (n := 5)).1 ?_
  refine callsIn_of_wp_marks Try.func3 rfl trivial ?_ rfl
  simp only [Try.ntmps3, List.size_toArray, List.length_cons, List.length_nil, Nat.reduceAdd, Nat.reduceSub, Array.replicate_succ, Array.replicate_zero, List.push_toArray, List.append_toArray, List.nil_append, List.cons_append]
  refine wpIn_wide.2 ?_
  go_wp2_with fail
  refine (B.out _).mono ?_; rintro e w1 ⟨rfl, g1⟩
  have hb0 := below_alloc1 w (Obj.cells #[.bool false] 4)
  have hT1 := (g1.block w.heap.size (by simp)).trans (heap_alloc_new w (Obj.cells #[.bool false] 4))
  have hb1 := hb0.trans (g1.mono hb0.size)
  have hlt := (Array.getElem?_eq_some_iff.1 hT1).1
  obtain ⟨BT, eBT⟩ : ∃ BT, w.heap.size = BT := ⟨_, rfl⟩
  rw [eBT] at hT1 hlt
  have H1 := Lib.hid (And.intro hb1 (And.intro hT1 hlt))
  clear hb0 hT1 hb1 hlt g1 B
  rw [eBT]
  go_wp2_with fail
  obtain ⟨hb1, hT1, hlt⟩ := H1.out
  have hn := new_rs (T := [BT]) hb1 (fun b hb => by rw [List.mem_singleton.1 hb]; exact hlt)
  rw [EZ.out] at hn
  have hT2 := (Below.heap_alloc w1 (Obj.cells Z 30) BT hlt).trans hT1
  have hs2 : (w1.alloc (Obj.cells Z 30)).heap.size = w1.heap.size + 1 := by simp
  obtain ⟨R, eR⟩ : ∃ R, w1.heap.size = R := ⟨_, rfl⟩
  obtain ⟨w2, ew2⟩ : ∃ w2, w1.alloc (Obj.cells Z 30) = w2 := ⟨_, rfl⟩
  rw [ew2, eR] at hn hs2
  rw [ew2] at hT2
  rw [ew2, eR]
  have hn3 := hn.alloc (Obj.cells #[.slice none 0 0] 31)
  have hT3 := (Below.heap_alloc w2 (Obj.cells #[.slice none 0 0] 31) BT (hn.t BT (by simp))).trans hT2
  have hL3 := heap_alloc_new w2 (Obj.cells #[.slice none 0 0] 31)
  obtain ⟨BL, eBL⟩ : ∃ BL, w2.heap.size = BL := ⟨_, rfl⟩
  obtain ⟨w3, ew3⟩ : ∃ w3, w2.alloc (Obj.cells #[.slice none 0 0] 31) = w3 := ⟨_, rfl⟩
  rw [ew3, eBL] at hn3 hL3
  rw [ew3] at hT3
  have hq : QS w BT BL R [BL, BT] [] 0 [] [] [] (.slice none 0 0) (.slice none 0 0) w3 := ⟨hn3, fun b hb => by
    have := hn.b.size
    simp at hb
    rcases hb with rfl | rfl <;> omega, by simp, by simp, hT3, hL3, .inl ⟨rfl, rfl⟩, .inl ⟨rfl, rfl⟩⟩
  have HQ := Lib.hid hq
  have eBL' : R + 1 = BL := by rw [← eBL, hs2]
  clear hb1 hT1 hlt hn hT2 hs2 hn3 hT3 hL3 hq zv EZ H1
  rw [ew3, eBL']
  clear ew2 ew3 eBL eBL' eR
  go_loopg [5, 6, 23] l (fun gh s5 s6 i wr => ∃ (k lo n : Nat) (A5 : Option Addr) (c5 : Nat), k ≤ l ∧ gh = l - k ∧ i = .int .i64 k ∧ s6 = .int .i64 lo ∧ s5 = .slice A5 n c5 ∧ Hid (LI w BT BL R k lo (.slice A5 n c5) wr))
  case atStart => exact ⟨0, 0, 0, none, 0, by omega, by omega, rfl, rfl, rfl, Lib.hid ⟨_, _, _, _, HQ.out, by simp, by simp⟩⟩
  case round =>
    obtain ⟨k, lo, n5, A5, c5, hk, hg, rfl, rfl, rfl, hI⟩ := hrel
    by_cases hlt : k < l
    · obtain ⟨y, hy⟩ : ∃ y, xs[k]? = some y := ⟨_, List.getElem?_eq_getElem (by rw [HA.out.1]; exact hlt)⟩
      obtain ⟨⟨yk, yx, bs, hbl, hbc, hbr, hb256⟩, b, of, rfl, hb, hc0, hc1, hc2⟩ := HA.out.2.1 k y hy
      obtain ⟨T, ps, us, vl, hq, husk, hlok⟩ := hI.out
      have c0 := hq.rs.b.cell (p := ⟨b, of + k * 3, none⟩) hb
      have c1 := hq.rs.b.cell (p := ⟨b, of + k * 3 + 1, none⟩) hb
      have c2 := hq.rs.b.cell (p := ⟨b, of + k * 3 + 2, none⟩) hb
      rw [hc0] at c0
      rw [hc1] at c1
      rw [hc2] at c2
      obtain ⟨yk0, yA, yl, yc, yx0⟩ := y
      dsimp only at c0 c1 c2 yk yx hbl hbc hbr
      have HK := Lib.hid (And.intro hk (And.intro hg (And.intro hlt (And.intro husk hlok))))
      have HY := Lib.hid (And.intro hbl (And.intro hbc (And.intro hbr (And.intro hb256 (And.intro yk yx)))))
      have HQ := Lib.hid hq
      have l1 : (k : Int) < l := by omega
      clear hc0 hc1 hc2 hb hy hq husk hlok hI hk hg hbl hbc hbr hb256 yk yx
      go_upto_region 12 with fail
      have hq5 := HQ.out.alloc (Obj.cells #[.int .i64 yk0, .slice yA yl yc, .int .u64 (yx0 : Int)] 35)
      have hC5 := heap_alloc_new wr (Obj.cells #[.int .i64 yk0, .slice yA yl yc, .int .u64 (yx0 : Int)] 35)
      obtain ⟨C, eC⟩ : ∃ C, wr.heap.size = C := ⟨_, rfl⟩
      obtain ⟨w5, ew5⟩ : ∃ w5, wr.alloc (Obj.cells #[.int .i64 yk0, .slice yA yl yc, .int .u64 (yx0 : Int)] 35) = w5 := ⟨_, rfl⟩
      rw [ew5, eC] at hq5 hC5
      rw [ew5, eC]
      obtain ⟨T5, eT5⟩ : ∃ T5, C :: T = T5 := ⟨_, rfl⟩
      have hCT : C ∈ T5 := by rw [← eT5]; simp
      rw [eT5] at hq5
      have d0 : w5.cell? ⟨C, 0, none⟩ = some (.int .i64 yk0) := by rw [cell_of_row _ _ _ _ 35 (0, 0) hC5]; rfl
      have d1 : w5.cell? ⟨C, 1, none⟩ = some (.slice yA yl yc) := by rw [cell_of_row _ _ _ _ 35 (0, 0) hC5]; rfl
      have d2 : w5.cell? ⟨C, 2, none⟩ = some (.int .u64 (yx0 : Int)) := by rw [cell_of_row _ _ _ _ 35 (0, 0) hC5]; rfl
      have H5 := Lib.hid (And.intro hq5 (And.intro hC5 hCT))
      clear HQ hq5 hC5 hCT eT5 ew5 eC c0 c1 c2
      by_cases h200 : 200 < yl
      · as_aux_lemma =>
          have h200' : (200 : Int) < yl := by omega
          have hct := H5.out.1.ct_cell
          obtain ⟨e0, e1⟩ := hct
          go_wp2_with fail
          have hT := heap_setCell_same w5 BT 0 _ 4 (.bool true) H5.out.1.ct
          refine ⟨_, results_cell1 (by rfl) _ _ BT true rfl ?_, rfl, H5.out.1.rs.b.setCell (p := ⟨BT, 0, none⟩) (H5.out.1.up _ H5.out.1.bt) _⟩
          rw [cell_of_row _ _ 0 _ 4 (0, 0) hT]; rfl
      · have h200' : ¬ (200 : Int) < yl := by omega
        obtain ⟨t, u, p, f1, f2, f2', f3, hp⟩ := mod3 yk0
        have H200 := Lib.hid h200
        clear h200
        have hp3 : p = 0 ∨ p = 1 ∨ p = 2 := by omega
        clear hp
        rcases hp3 with rfl | rfl | rfl
        · obtain ⟨Al, cl, evl, hlc, hlm⟩ := H5.out.1.l.form
          subst evl
          obtain ⟨e0, _⟩ := H5.out.1.cl_cell
          obtain ⟨nl, enl⟩ : ∃ nl, ps.length = nl := ⟨_, rfl⟩
          have hnl8 : nl ≤ 8 := by rw [← enl]; exact H5.out.1.rs.np
          have hbrw := HY.out.2.2.1.below H5.out.1.rs.b
          by_cases h8 : nl < 8
          · have P := Lib.hid (push_rs H5.out.1.rs (by omega) yA yl yc bs HY.out.1 hbrw HY.out.2.2.2.1 (by have := H200.out; omega))
            rw [enl] at e0
            have l8 : (nl : Int) < 8 := by omega
            have EN := Lib.hid enl
            clear hlc hlm hnl8 hbrw enl
            go_wp2_with fail
            refine P.out.mono ?_; rintro e w6 ⟨rfl, h6, s6⟩
            have hq6 := H5.out.1.call h6 s6
            have hC6 := (s6 C H5.out.2.2).trans H5.out.2.1
            have H6 := Lib.hid (And.intro hq6 hC6)
            clear h6 s6 hq6 hC6 P e0 d0 d1 d2
            go_upto_region 23 with fail
            obtain ⟨hq6, hC6⟩ := H6.out
            obtain ⟨q, eq⟩ : ∃ q, bs.take 32 = q := ⟨_, rfl⟩
            obtain ⟨m, em⟩ : ∃ m, q.length = m := ⟨_, rfl⟩
            have hm2 : min yl 32 = m := by rw [← em, ← eq, List.length_take, HY.out.1, Nat.min_comm]
            have mi : min (yl : Int) 32 = (m : Int) := by omega
            have q1 : (m : Int) ≤ yc := by have := HY.out.2.1; omega
            have q2 : 0 ≤ (m : Int) := by omega
            have hbt : bs.take m = q := by
              rw [← eq, ← hm2]
              by_cases h : yl ≤ 32
              · rw [Nat.min_eq_left h, List.take_of_length_le (by rw [HY.out.1]; omega), List.take_of_length_le (by rw [HY.out.1]; omega)]
              · rw [Nat.min_eq_right (by omega)]
            obtain ⟨S, eS⟩ : ∃ S, Str q = S := ⟨_, rfl⟩
            have hcv : ∀ W : World, Below w.heap.size w W → (convert 32 9 (.slice yA m yc)).run Try.prog W = .ok (.string S) W := fun W hb => by
              rw [← eS]
              refine conv_bytes _ _ _ _ _ em ?_
              rw [← hbt]; exact (HY.out.2.2.1.below hb).take m
            have hcl6 : w6.cell? ⟨BL, 0, none⟩ = some (.slice Al nl cl) := by rw [← EN.out]; exact hq6.cl_cell.1
            have KD := Lib.hid (fun (W : World) (hb : Below w6.heap.size w6 W) => (show W.cell? ⟨BL, 0, none⟩ = some (.slice Al nl cl) ∧ W.cell? ⟨C, 1, none⟩ = some (.slice yA yl yc) ∧ (convert 32 9 (.slice yA m yc)).run Try.prog W = .ok (.string S) W from
              ⟨by rw [hb.cell (block_lt_of_cell hcl6)]; exact hcl6, by
                have hc : w6.cell? ⟨C, 1, none⟩ = some (.slice yA yl yc) := by rw [cell_of_row _ _ _ _ 35 (0, 0) hC6]; rfl
                rw [hb.cell (block_lt_of_cell hc)]; exact hc, hcv W (hq6.rs.b.trans (hb.mono hq6.rs.b.size))⟩))
            have hcall := Lib.hid ((Below.refl w6.heap.size w6).drew)
            have hq7 := (hq6.alloc (Obj.cells #[.string S] 9)).below (Below.refl _ _).drew
            have hb7 : Below w6.heap.size w6 ((w6.alloc (Obj.cells #[.string S] 9)).drew) := (below_alloc1 w6 _).drew
            obtain ⟨v8, w8, T8, hrun, hq8, cb8, fb8, hb8, hc8⟩ := append_l hq7 31 q w6.heap.size (by rw [eS]; exact (cell_of_row (w6.alloc (Obj.cells #[.string S] 9)).drew _ 0 _ 9 (0, 0) (heap_alloc_new w6 _)).trans rfl) (by have := hq6.rs.np; have := EN.out; omega)
            have S8 := Lib.hid (show w8.cell? ⟨BL, 0, none⟩ = some (.slice Al nl cl) ∧ w8.cell? ⟨C, 1, none⟩ = some (.slice yA yl yc) ∧ (convert 32 9 (.slice yA m yc)).run Try.prog w8 = .ok (.string S) w8 from
              ⟨by rw [cb8, EN.out], by
                have hC7 : ((w6.alloc (Obj.cells #[.string S] 9)).drew).heap[C]? = some (Obj.cells #[.int .i64 yk0, .slice yA yl yc, .int .u64 (yx0 : Int)] 35) := (hb7.block C (Array.getElem?_eq_some_iff.1 hC6).1).trans hC6
                rw [cell_of_row _ _ _ _ 35 (0, 0) (hc8 C _ hC7)]; rfl, hcv w8 hb8⟩)
            rw [EN.out] at hrun
            obtain ⟨A8, c8, e8, _, _⟩ := hq8.l.form
            rw [show (ps ++ [q]).length = ps.length + 1 by simp] at e8
            have HE := Lib.hid hq8
            have HRUN := Lib.hid hrun
            have H7 := Lib.hid hb7
            have EQ := Lib.hid eq
            subst e8
            clear hq6 hC6 hcv hcl6 hq7 hb7 hrun hq8 hb8 hc8 hbt hm2 eq em eS H6
            refine region_AU (z := 11) (S := fun W => W.cell? ⟨BL, 0, none⟩ = some (.slice Al nl cl) ∧ W.cell? ⟨C, 1, none⟩ = some (.slice yA yl yc) ∧ (convert 32 9 (.slice yA m yc)).run Try.prog W = .ok (.string S) W) (by kernel_rfl) (KD.out _ hcall.out) (fun hHeld => ?_)
            refine AU_take (by kernel_rfl) (by decide) (i := 0) (oi := _) (v := ?vv0) rfl (by kernel_rfl) (by kernel_rfl) (by kernel_rfl) (fun _ _ _ h => h) (Or.inl ⟨by rfl, ?hy0⟩) hHeld ?rest0
            case hy0 => (intro wS hSw; (try dsimp only at hSw); obtain ⟨s1, s2, s3⟩ := hSw; go_simp; try with_reducible rfl)
            simp only [Act.put, List.getElem_toArray, List.getElem_cons_zero, List.getElem_cons_succ, List.setIfInBounds_toArray, List.set_cons_zero, List.set_cons_succ]
            refine AU_take (by kernel_rfl) (by decide) (i := 1) (oi := _) (v := ?vv1) rfl (by kernel_rfl) (by kernel_rfl) (by kernel_rfl) (fun _ _ _ h => h) (Or.inl ⟨by rfl, ?hy1⟩) hHeld ?rest1
            case hy1 => (intro wS hSw; (try dsimp only at hSw); obtain ⟨s1, s2, s3⟩ := hSw; go_simp; try with_reducible rfl)
            simp only [Act.put, List.getElem_toArray, List.getElem_cons_zero, List.getElem_cons_succ, List.setIfInBounds_toArray, List.set_cons_zero, List.set_cons_succ]
            refine AU_take (by kernel_rfl) (by decide) (i := 2) (oi := _) (v := ?vv2) rfl (by kernel_rfl) (by kernel_rfl) (by kernel_rfl) (fun _ _ _ h => h) (Or.inl ⟨by rfl, ?hy2⟩) hHeld ?rest2
            case hy2 => (intro wS hSw; (try dsimp only at hSw); obtain ⟨s1, s2, s3⟩ := hSw; go_simp; try with_reducible rfl)
            simp only [Act.put, List.getElem_toArray, List.getElem_cons_zero, List.getElem_cons_succ, List.setIfInBounds_toArray, List.set_cons_zero, List.set_cons_succ]
            refine AU_take (by kernel_rfl) (by decide) (i := 3) (oi := _) (v := ?vv3) rfl (by kernel_rfl) (by kernel_rfl) (by kernel_rfl) (fun _ _ _ h => h) (Or.inl ⟨by rfl, ?hy3⟩) hHeld ?rest3
            case hy3 => (intro wS hSw; (try dsimp only at hSw); obtain ⟨s1, s2, s3⟩ := hSw; go_simp; try with_reducible rfl)
            simp only [Act.put, List.getElem_toArray, List.getElem_cons_zero, List.getElem_cons_succ, List.setIfInBounds_toArray, List.set_cons_zero, List.set_cons_succ]
            refine AU_take (by kernel_rfl) (by decide) (i := 4) (oi := _) (v := ?vv4) rfl (by kernel_rfl) (by kernel_rfl) (by kernel_rfl) (fun _ _ _ h => h) (Or.inl ⟨by rfl, ?hy4⟩) hHeld ?rest4
            case hy4 => (intro wS hSw; (try dsimp only at hSw); obtain ⟨s1, s2, s3⟩ := hSw; go_simp; try with_reducible rfl)
            simp only [Act.put, List.getElem_toArray, List.getElem_cons_zero, List.getElem_cons_succ, List.setIfInBounds_toArray, List.set_cons_zero, List.set_cons_succ]
            refine AU_take (by kernel_rfl) (by decide) (i := 5) (oi := _) (v := ?vv5) rfl (by kernel_rfl) (by kernel_rfl) (by kernel_rfl) (fun _ _ _ h => h) (Or.inl ⟨by rfl, ?hy5⟩) hHeld ?rest5
            case hy5 => (intro wS hSw; (try dsimp only at hSw); obtain ⟨s1, s2, s3⟩ := hSw; go_simp; try with_reducible rfl)
            simp only [Act.put, List.getElem_toArray, List.getElem_cons_zero, List.getElem_cons_succ, List.setIfInBounds_toArray, List.set_cons_zero, List.set_cons_succ]
            refine AU_take (by kernel_rfl) (by decide) (i := 6) (oi := _) (v := ?vv6) rfl (by kernel_rfl) (by kernel_rfl) (by kernel_rfl) (fun _ _ _ h => h) (Or.inl ⟨by rfl, ?hy6⟩) hHeld ?rest6
            case hy6 => (intro wS hSw; (try dsimp only at hSw); obtain ⟨s1, s2, s3⟩ := hSw; go_simp; try with_reducible rfl)
            simp only [Act.put, List.getElem_toArray, List.getElem_cons_zero, List.getElem_cons_succ, List.setIfInBounds_toArray, List.set_cons_zero, List.set_cons_succ]
            refine AU_take (by kernel_rfl) (by decide) (i := 7) (oi := _) (v := ?vv7) rfl (by kernel_rfl) (by kernel_rfl) (by kernel_rfl) (fun _ _ _ h => h) (Or.inl ⟨by rfl, ?hy7⟩) hHeld ?rest7
            case hy7 => (intro wS hSw; (try dsimp only at hSw); obtain ⟨s1, s2, s3⟩ := hSw; go_simp; try with_reducible rfl)
            simp only [Act.put, List.getElem_toArray, List.getElem_cons_zero, List.getElem_cons_succ, List.setIfInBounds_toArray, List.set_cons_zero, List.set_cons_succ]
            refine AU_take (by kernel_rfl) (by decide) (i := 8) (oi := _) (v := ?vv8) rfl (by kernel_rfl) (by kernel_rfl) (by kernel_rfl) (fun _ _ _ h => h) (Or.inl ⟨by rfl, ?hy8⟩) hHeld ?rest8
            case hy8 => (intro wS hSw; (try dsimp only at hSw); obtain ⟨s1, s2, s3⟩ := hSw; go_simp; try with_reducible rfl)
            simp only [Act.put, List.getElem_toArray, List.getElem_cons_zero, List.getElem_cons_succ, List.setIfInBounds_toArray, List.set_cons_zero, List.set_cons_succ]
            refine AU_one (i := 9) (o := _) (by kernel_rfl) rfl (fun K hK => ?_)
            go_simp
            refine hK.out _ _ (fun _ => KD.out _ H7.out) ?_
            clear hK K
            try simp only [Act.put, List.getElem_toArray, List.getElem_cons_zero, List.getElem_cons_succ, List.setIfInBounds_toArray, List.set_cons_zero, List.set_cons_succ]
            refine AU_one (i := 10) (o := _) (by kernel_rfl) rfl (fun K hK => ?_)
            refine step_append rfl (.tmp 56) (.tmp 65) 31 31 rfl _ _ _ rfl rfl w8 HRUN.out ?_
            refine hK.out _ _ (fun _ => S8.out) ?_
            clear hK K
            try simp only [Act.put, List.getElem_toArray, List.getElem_cons_zero, List.getElem_cons_succ, List.setIfInBounds_toArray, List.set_cons_zero, List.set_cons_succ]
            refine AU_one (i := 11) (o := _) (by kernel_rfl) rfl (fun K hK => ?_)
            go_simp
            refine hK.out _ _ (fun h => absurd rfl h) ?_
            clear hK K
            try simp only [Act.put, List.getElem_toArray, List.getElem_cons_zero, List.getElem_cons_succ, List.setIfInBounds_toArray, List.set_cons_zero, List.set_cons_succ]
            refine AU_done (by kernel_rfl) ?_ _
            clear hHeld KD S8 HRUN H7 hcall cb8 fb8
            simp only [OnlyN]
            go_wp2_with fail
            go_roundg (l - (k + 1))
            case rel => exact ⟨k + 1, lo, n5, A5, c5, by have := HK.out; omega, rfl, by first | rfl | (simp; done), rfl, rfl, Lib.hid ⟨T8, _, us, _, by rw [EQ.out] at HE; exact HE.out, by have := HK.out; omega, by have := HK.out; omega⟩⟩
            case measure => have := HK.out; omega
          · obtain rfl : nl = 8 := by omega
            have P := Lib.hid (push_rs_full H5.out.1.rs (by omega) (by have := HK.out; omega) yA yl yc)
            rw [enl] at e0
            have EN := Lib.hid enl
            have i1 : IntKind.i64.wrap ((lo : Int) + 1) = (lo : Int) + 1 := by rw [IntKind.wrap_i64]; have := HK.out; omega
            clear hlc hlm hnl8 hbrw enl
            go_wp2_with fail
            refine P.out.mono ?_; rintro e w6 ⟨rfl, h6, s6⟩
            have H6 := Lib.hid (H5.out.1.call h6 s6)
            clear h6 s6 P e0 d0 d1 d2
            go_wp2_with fail
            go_roundg (l - (k + 1))
            case rel => exact ⟨k + 1, lo + 1, n5, A5, c5, by have := HK.out; omega, rfl, by first | rfl | (simp; done), by first | rfl | (simp; done), rfl, Lib.hid ⟨_, _, us, _, H6.out, by have := HK.out; omega, by have := HK.out; omega⟩⟩
            case measure => have := HK.out; omega
        · cases ps with
          | nil =>
            have P := Lib.hid (pop_rs_none H5.out.1.rs)
            obtain ⟨Al, cl, evl, hlc, hlm⟩ := H5.out.1.l.form
            subst evl
            obtain ⟨e0, _⟩ := H5.out.1.cl_cell
            rw [List.length_nil] at e0
            clear hlc hlm
            go_wp2_with fail
            refine P.out.mono ?_; rintro e w6 ⟨rfl, rfl⟩
            clear P d0 d1 d2
            go_upto_region 27 with fail
            go_quiet (fail)
            go_wp2_with fail
            go_roundg (l - (k + 1))
            case rel => exact ⟨k + 1, lo, n5, A5, c5, by have := HK.out; omega, rfl, by first | rfl | (simp; done), rfl, rfl, Lib.hid ⟨_, _, us, _, H5.out.1.below (below_drewN0 _ _), by have := HK.out; omega, by have := HK.out; omega⟩⟩
            case measure => have := HK.out; omega
          | cons q ps' =>
            have P := Lib.hid (pop_rs H5.out.1.rs)
            obtain ⟨Al, cl, evl, hlc, hlm⟩ := H5.out.1.l.form
            subst evl
            obtain ⟨nl, enl⟩ : ∃ nl, ps'.length = nl := ⟨_, rfl⟩
            go_wp2_with fail
            refine P.out.mono ?_; rintro e w6 ⟨b6, v6, rfl, hnb, h6, s6, hb6, _⟩
            clear d0 d1 d2
            have hq6 := H5.out.1.wide h6 (fun b hb => List.mem_cons_of_mem _ hb) (fun b hb => by
              rcases List.mem_cons.1 hb with rfl | hb
              · have := H5.out.1.rs.b.size; omega
              · exact H5.out.1.up b hb) s6
            obtain ⟨e0, f0⟩ := hq6.cl_cell
            obtain ⟨g, o, rfl, e1⟩ := hq6.l.cell (i := 0) (x := q) rfl
            obtain ⟨A', hsl, htl⟩ := hq6.l.tail
            obtain ⟨c6, cu6, rfl, n6⟩ := hnb
            have hcv := NB.conv (w := w6) (b := b6) (p := q) ⟨c6, cu6, rfl, n6⟩
            obtain ⟨S, eS⟩ : ∃ S, Str q = S := ⟨_, rfl⟩
            have e2 : encS q = .string S := by unfold encS; rw [eS]
            rw [e2, Nat.add_zero] at e1
            rw [eS] at hcv
            have H6 := Lib.hid (hq6.set_l htl)
            have HSL := Lib.hid hsl
            rw [List.length_cons, enl] at e0 hlc
            rw [enl] at htl
            have hl1 : (1 : Int) ≤ ((nl + 1 : Nat) : Int) := by omega
            have SLI : ∀ W : World, (Instr.slice 31 (.slice (some ⟨g, o, none⟩) (nl + 1) cl) (some (.int .i64 1)) none none).run Try.prog W = .ok (.slice A' nl (cl - 1)) W := fun W => by
              rw [run_slice_l W 31 (some ⟨g, o, none⟩) (nl + 1) cl (by kernel_rfl) .i64 1 (by omega) (by omega)]
              have hE : (sizeOf (Try.prog.elem 31)).run Try.prog W = .ok 1 W := by kernel_rfl
              rw [hE]
              have := HSL.out 1 rfl
              rw [List.length_cons, enl] at this
              simp only [Result.andThen_ok]
              show Result.ok (sliced (some ⟨g, o, none⟩) 1 (nl + 1) cl 1) W = _
              rw [this]
            rw [enl] at H6
            have SL := Lib.hid SLI
            clear n6 hq6 h6 s6 hb6 P hlc hlm hsl htl enl e2 eS HSL SLI
            go_upto_region 27 with fail
            go_quiet (fail)
            go_upto_region 30 with fail
            have HS2 := SL.out
            go_wp2_with fail
            go_roundg (l - (k + 1))
            case rel => exact ⟨k + 1, lo, n5, A5, c5, by have := HK.out; omega, rfl, by first | rfl | (simp; done), rfl, rfl, Lib.hid ⟨_, _, us, _, H6.out.below (below_drewN0 _ nq), by have := HK.out; omega, by have := HK.out; omega⟩⟩
            case measure => have := HK.out; omega
        · have hus : us.length ≤ 300 := by have := HK.out; omega
          have P := Lib.hid (put_rs H5.out.1.rs (by omega) yx0)
          go_wp2_with fail
          refine P.out.mono ?_; rintro e w6 ⟨rfl, h6, s6⟩
          have hq6 := H5.out.1.call h6 s6
          have hC6 := (s6 C H5.out.2.2).trans H5.out.2.1
          have e2 : w6.cell? ⟨C, 2, none⟩ = some (.int .u64 (yx0 : Int)) := by rw [cell_of_row _ _ _ _ 35 (0, 0) hC6]; rfl
          obtain ⟨v8, w8, T8, hrun, hq8⟩ := append_o (hq6.alloc (Obj.cells #[.int .u64 (yx0 : Int)] 33)) 28 yx0 w6.heap.size (by rw [cell_of_row _ _ 0 _ 33 (0, 0) (heap_alloc_new w6 _)]; rfl) (by omega)
          obtain ⟨A8, c8, e8, _, _⟩ := hq8.o.form
          rw [show (us ++ [yx0]).length = us.length + 1 by simp] at e8
          subst e8
          have HE := Lib.hid (And.intro hq8 hus)
          have HRUN := Lib.hid hrun
          clear hq6 hC6 h6 s6 P hrun hq8 d0 d1 d2 hus
          go_wp2_with (at_builtin; refine wpList_append_by rfl (.tmp 40) (.tmp 43) _ _ rfl _ _ _ rfl rfl w8 HRUN.out ?_)
          go_wp2_with fail
          go_roundg (l - (k + 1))
          case rel => exact ⟨k + 1, lo, _, A8, c8, by have := HK.out; omega, rfl, by first | rfl | (simp; done), rfl, rfl, Lib.hid ⟨_, _, us ++ [yx0], _, HE.out.1, (by rw [List.length_append, List.length_singleton]; exact Nat.succ_le_succ HK.out.2.2.2.1), Nat.le_succ_of_le HK.out.2.2.2.2⟩⟩
          case measure => have := HK.out; omega
    · obtain rfl : k = l := by omega
      clear hg hk hlt HQ
      go_wp2_with fail
      obtain ⟨T, ps, us, vl, hq, husk, hlok⟩ := hI.out
      obtain ⟨Al, cl, evl, hlc, hlm⟩ := hq.l.form
      subst evl
      obtain ⟨nl, enl⟩ : ∃ nl, ps.length = nl := ⟨_, rfl⟩
      have hnl8 : nl ≤ 8 := by rw [← enl]; exact hq.rs.np
      have hN7 := heap_alloc_new wr (Obj.cells #[.int .i64 0] 3)
      have hq7 := hq.alloc (Obj.cells #[.int .i64 0] 3)
      have hk7 := hq.lk.same (hq.rs.same (below_alloc1 wr (Obj.cells #[.int .i64 0] 3)))
      have hNT : wr.heap.size ∉ T := fun hm => by have := hq.rs.t _ hm; omega
      have hWN := hq.rs.b.size
      obtain ⟨N, eN⟩ : ∃ N, wr.heap.size = N := ⟨_, rfl⟩
      obtain ⟨w7, ew7⟩ : ∃ w7, wr.alloc (Obj.cells #[.int .i64 0] 3) = w7 := ⟨_, rfl⟩
      rw [ew7, eN] at hq7 hN7
      rw [ew7] at hk7
      rw [eN] at hNT hWN
      rw [ew7, eN]
      have AL := Lib.hid (all_rs hq7.rs)
      have HQ7 := Lib.hid (And.intro hq7 (And.intro hN7 (And.intro hNT (And.intro hk7 hWN))))
      have HN := Lib.hid (And.intro husk (And.intro hlok (And.intro enl hnl8)))
      clear hq hq7 hN7 hNT husk hlok hI ew7 eN hk7 hWN hlc hlm hnl8
      refine AL.out.mono ?_; rintro e w8 ⟨B, NN, g, rfl, hz8, hw8, hok8, h8, s8, hB8, hN8⟩
      go_wp2_with fail
      have hcr : CR w T N R ps lo us w8 [B, NN] 0 w8 := by
        obtain ⟨hq7, hN7, hNT, _⟩ := HQ7.out
        have hup := hq7.up
        refine ⟨fun b hb => ?_, h8.less (fun b hb => ?_), fun b hb hm => ?_, Same.refl _ _, (s8 N (by simp)).trans hN7⟩
        · have := hq7.rs.b.size; simp at hb; omega
        · simp at hb ⊢
          rcases hb with rfl | hb | rfl | rfl
          · exact .inr (.inr (.inl rfl))
          · exact .inr (.inr (.inr hb))
          · exact .inl rfl
          · exact .inr (.inl rfl)
        · have := hq7.rs.t b hb
          simp at hm; omega
      have hk8 := HQ7.out.2.2.2.1.same (s8.less fun b hb => List.mem_cons_of_mem _ hb)
      have EI := Lib.hid (all_iter B NN g nl (by rw [← enl]; exact h8.np) hok8)
      rw [enl] at hw8 hz8
      have hTU : ∀ b ∈ T, w.heap.size ≤ b := fun b hb => HQ7.out.1.up b (List.mem_cons_of_mem _ hb)
      have H8 := Lib.hid (And.intro hcr (And.intro hk8 (And.intro HQ7.out.2.2.1 (And.intro hw8 (And.intro hz8 (And.intro HQ7.out.2.2.2.2 hTU))))))
      clear hcr hk8 hw8 hz8 hok8 h8 s8 hB8 hN8 AL HQ7 hTU enl
      refine (wpIn_wide (n := 5)).1 ?_
      refine range_exit (m := 4) (gf := 18) (lb := #[.pointer (some ⟨B, 0, none⟩)]) rfl (enters_of Try.func18 (by decide) rfl) EI.out (fun _ => rfl)
        (fun TT pre X => CR w T N R ps lo us w8 TT (pre.length : Nat) X) (fun c TT pre X => False) (fun _ _ _ _ _ h _ ht hn => h.grow ht hn) (fun c _ _ _ _ _ h _ ht hn => h) [B, NN] ?hT (fun b hb => hb) ?hZ H8.out.1 ?round
        3 (fun _ _ h => h) (fun TT X => CR w T N R ps lo us w8 TT (nl : Nat) X) (fun T xs X hf h => ?hfin) (fun c T pre X h => h.elim) ?rest
      case hT => intro b hb; exact H8.out.1.2.1.t b (List.mem_append_right _ hb)
      case hZ =>
        intro X hX
        obtain ⟨_, _, z1, z2, _⟩ := H8.out.2.2.2.2.1
        exact H8.out.2.2.2.2.1.same (hX.block _ (Array.getElem?_eq_some_iff.1 z1).1) (hX.block _ (Array.getElem?_eq_some_iff.1 z2).1)
      case hfin =>
        have e : xs.length = nl := by
          have := congrArg List.length hf
          rw [List.length_map, wait_len] at this
          exact this
        rw [← e]; exact h
      case round =>
        rintro l1 TT pre ⟨p, b, cc⟩ Wr hl1 hrec hox hTO ⟨hpre, hnb⟩ hI
        have hbT : b ∉ TT := hox b (by simp [ownI])
        rw [H8.out.2.2.2.1] at hpre
        obtain ⟨n, en⟩ : ∃ n : Nat, pre.length = n := ⟨_, rfl⟩
        have hlen : n < nl := by
          have := hpre.length_le
          rw [List.length_map, List.length_append, List.length_singleton, en, HN.out.2.2.1] at this; omega
        have hpn : ps[n]? = some p := by
          obtain ⟨t, ht⟩ := hpre
          rw [← ht, List.map_append, List.append_assoc, List.getElem?_append_right (by rw [List.length_map]; omega), List.length_map, en, Nat.sub_self]
          rfl
        have HI2 := Lib.hid (And.intro hI (And.intro hTO (And.intro hl1 (And.intro hnb (And.intro hbT (And.intro hlen hpn))))))
        dsimp only [encI, It.v]
        clear hI hTO hl1 hrec hox hpre hnb hbT
        gi_wp2
        refine ⟨Same.refl _ _, fun W2 ht hsz _ hr2 => ?_⟩
        obtain ⟨hI, hTO, hl1, hnb, hbT, _, _⟩ := HI2.out
        have hlb : l1 ∈ ownI ⟨p, b, cc⟩ ++ TT := List.mem_append_right _ hl1
        have hc := hI.grow (ht.mono (S' := ownI ⟨p, b, cc⟩ ++ TT) (fun x hx => by rw [List.mem_singleton.1 hx]; exact hlb)) (T' := ownI ⟨p, b, cc⟩ ++ TT) (fun b' hb' => ⟨.inl hb', by rw [hsz]; exact hTO b' hb'⟩)
        have hbl : b ≠ l1 := fun e => hbT (e ▸ hl1)
        have hnb2 : NB W2 b p (.slice (some ⟨b, 0, none⟩) p.length cc) := hnb.same (ht.block b (hTO b (by simp [ownI])) (by simpa using hbl))
        have hcv := hnb2.conv
        obtain ⟨S, eS⟩ : ∃ S, Str p = S := ⟨_, rfl⟩
        rw [eS] at hcv
        have hk2 := H8.out.2.1.same hc.2.2.2.1
        obtain ⟨k1, k2, k3⟩ := hk2.cells
        rw [HN.out.2.2.1] at k1
        obtain ⟨g', o', rfl, k4⟩ := hk2.l.cell hpn
        rw [show encS p = .string S by unfold encS; rw [eS]] at k4
        have hc1 := hc.less (T' := TT) (fun b' hb' => List.mem_append_right _ hb')
        obtain ⟨c1, c2⟩ := hc1.cells
        rw [en] at c1 hc1
        have hset := hc1.set (by have := H8.out.2.2.2.2.2; omega) H8.out.2.2.1 ((n : Int) + 1)
        have i1 : IntKind.i64.wrap ((n : Int) + 1) = (n : Int) + 1 := by rw [IntKind.wrap_i64]; have := HN.out; omega
        have j0 : ((n : Int) == (nl : Int)) = false := by rw [beq_eq_false_iff_ne]; omega
        have j1 : (n : Int) < nl := by omega
        have j2 : 0 ≤ (n : Int) := by omega
        have HE := Lib.hid (And.intro hset en)
        clear hI hTO hl1 hnb hbT hlb hc hbl hnb2 ht hsz hr2 HI2 hk2 hc1 hset hpn eS en
        gi_wp2_with fail
        refine region_quiet_round (by kernel_rfl) (by kernel_rfl) (fun ⟨_, _, h⟩ => h) (by kernel_rfl) ?_
        repeat (quiet_step (fail))
        refine wpQuiet_nil ?_
        intro _ hw'
        obtain ⟨nq, hw''⟩ := hw'
        subst hw''
        gi_wp2_with fail
        have hl : (((pre ++ [(⟨p, b, cc⟩ : It)]).length : Nat) : Int) = (n : Int) + 1 := by rw [List.length_append, HE.out.2]; rfl
        have hd : CR w T N R ps lo us w8 TT ((n : Int) + 1) ((W2.setCell ⟨N, 0, none⟩ (.int .i64 ((n : Int) + 1))).drewN nq) := HE.out.1.1.grow ⟨rfl, rfl, rfl, Nat.le_refl _, fun _ _ _ => rfl⟩ fun b' hb' => ⟨.inl hb', HE.out.1.1.2.1.t b' (List.mem_append_right _ hb')⟩
        refine ⟨HE.out.1.2, ?_⟩
        dsimp only
        rw [hl]
        exact hd
      case rest =>
        rintro D X hD hDX hDT hc hKD hsm
        obtain ⟨T9, eT9⟩ : ∃ T9, (N :: T) ++ D :: [B, NN] = T9 := ⟨_, rfl⟩
        have hlk := H8.out.2.1.same hc.2.2.2.1
        have hm9 : (∀ b ∈ T, b ∈ T9) ∧ (∀ b ∈ T9, w.heap.size ≤ b) ∧ D ∈ T9 ∧ N ∈ T9 := by
          rw [← eT9]
          refine ⟨fun b hb => by simp [hb], fun b hb => ?_, by simp, by simp⟩
          rcases List.mem_append.1 hb with hb | hb
          · rcases List.mem_cons.1 hb with rfl | hb
            · exact H8.out.2.2.2.2.2.1
            · exact H8.out.2.2.2.2.2.2 b hb
          · exact hc.1 b hb
        obtain ⟨cN, _⟩ := hc.cells
        have hrs := hc.2.1
        have hNX := hc.2.2.2.2
        rw [eT9] at hrs
        have hqX := hlk.qs hrs hm9.1 hm9.2.1
        have O := Lib.hid (out_rs hrs)
        have HX := Lib.hid (And.intro hqX (And.intro hKD (And.intro hm9 hNX)))
        clear hlk hm9 hrs hqX hc hsm hDX hD hDT hKD eT9 H8 EI hNX cN
        go_wp2_with fail
        refine O.out.mono ?_; rintro e w9 ⟨v9, rfl, hb9, hu9, h9, s9⟩
        have hq9 := HX.out.1.call h9 s9
        obtain ⟨A9, c9, e9⟩ := hu9.form
        subst e9
        obtain ⟨e0, _⟩ := hq9.cl_cell
        rw [HN.out.2.2.1] at e0
        obtain ⟨nu, enu⟩ : ∃ nu, us.length = nu := ⟨_, rfl⟩
        have h5f := hq9.o.form
        have hn5 : n5 = nu := by
          obtain ⟨_, _, e, _⟩ := h5f
          injection e with _ e _
          rw [e, enu]
        subst hn5
        rw [enu] at hu9
        have hN9 := (s9 N HX.out.2.2.1.2.2.2).trans HX.out.2.2.2
        have cN9 : w9.cell? ⟨N, 0, none⟩ = some (.int .i64 (nl : Int)) := by rw [cell_of_row _ _ 0 _ 3 (0, 0) hN9]; rfl
        rw [enu]
        have H9 := Lib.hid (And.intro hq9 (And.intro hu9 (And.intro ((s9 D HX.out.2.2.1.2.2.1).trans HX.out.2.1) enu)))
        clear hq9 hu9 h9 s9 hb9 h5f hN9 enu O
        go_wp2_with fail
        go_loopg [126] n5 (fun gh i wz => ∃ j : Nat, j ≤ n5 ∧ gh = n5 - j ∧ i = .int .i64 j ∧ Hid (∃ q, wz = w9.drewN q))
        case atStart => exact ⟨0, by omega, by omega, rfl, Lib.hid ⟨0, rfl⟩⟩
        case round =>
          obtain ⟨j, hj, hgj, rfl, hI⟩ := hrel
          obtain ⟨qz, eqz⟩ := hI.out
          subst eqz
          by_cases hlt : j < n5
          · obtain ⟨hq9, hu9, _, enu⟩ := H9.out
            obtain ⟨x, hx⟩ : ∃ x, us[j]? = some x := ⟨_, List.getElem?_eq_getElem (by rw [enu]; exact hlt)⟩
            obtain ⟨g5, o5, rfl, k5⟩ := hq9.o.cell hx
            rcases hu9 with ⟨hz, _⟩ | ⟨b9, c9', cu9, e9, _, _, hb9, _, _, htk⟩
            · rw [hz] at hx; cases hx
            injection e9 with e9a e9b e9c
            subst e9a
            have k9 : w9.cell? ⟨b9, j, none⟩ = some (.int .u64 (x : Int)) := by
              rw [cell_of_row _ _ _ _ 33 (0, 0) hb9]
              exact take_at htk (U_at hx)
            have k5' : w9.cell? ⟨g5, o5 + j, none⟩ = some (.int .u64 (x : Int)) := k5
            have l1 : (j : Int) < n5 := by omega
            have l2 : 0 ≤ (j : Int) := by omega
            have HJ := Lib.hid (And.intro hj (And.intro hgj hlt))
            have i1 : IntKind.i64.wrap ((j : Int) + 1) = (j : Int) + 1 := by rw [IntKind.wrap_i64]; have h1 := HN.out.1; have h2 := HA.out.2.2; omega
            clear hI hq9 hx hb9 htk k5 hj hgj hlt e9b e9c enu e0 cN9
            go_wp2_with fail
            go_quiet (fail)
            go_wp2_with fail
            go_roundg (n5 - (j + 1))
            case rel => exact ⟨j + 1, by have := HJ.out; omega, rfl, by first | rfl | (simp; done), Lib.hid ⟨_, rfl⟩⟩
            case measure => have := HJ.out; omega
          · obtain rfl : j = n5 := by omega
            obtain ⟨hq9, hu9, hD9, enu⟩ := H9.out
            have hbz := below_drewN0 w9 qz
            have hqz := hq9.below hbz
            obtain ⟨e1, _⟩ := hqz.cl_cell
            rw [HN.out.2.2.1] at e1
            have L1 := Lib.hid (fun W hr => len_rs (w := W) (W := w) (T := T9) (R := R) (ps := ps) (lost := lo) (us := us) hr)
            have L2 := Lib.hid (fun W hr => lost_rs (w := W) (W := w) (T := T9) (R := R) (ps := ps) (lost := lo) (us := us) hr)
            obtain ⟨WZ, eWZ⟩ : ∃ WZ, ({ w9.drewN qz with drawn := (w9.drewN qz).drawn + 1 } : World) = WZ := ⟨_, rfl⟩
            have hqW : QS w BT BL R T9 ps lo us ps us (.slice Al nl cl) (.slice A5 j c5) WZ := by
              rw [← eWZ]; have := hqz.below (Below.refl _ _).drew; rw [HN.out.2.2.1] at this; exact this
            have hDW : WZ.heap[D]? = some (.deferred (some [])) := by rw [← eWZ]; exact hD9
            obtain ⟨e2, _⟩ := hqW.cl_cell
            obtain ⟨e3, e4⟩ := hqW.ct_cell
            have LN := Lib.hid (len_rs hqW.rs)
            have LO := Lib.hid (lost_rs hqW.rs)
            rw [HN.out.2.2.1] at LN
            have HW := Lib.hid (And.intro hqW hDW)
            clear hI hq9 hu9 hD9 enu hbz hqz e1 L1 L2 hqW hDW hj hgj hlt cN9 e0
            go_upto_region 47 with fail
            refine wp_region_still_tail 9 (by kernel_rfl) (by kernel_rfl) ?_
            rw [eWZ]
            simp only [List.take_succ_cons, List.take_zero, List.drop_succ_cons, List.drop_zero]
            clear eWZ
            still_call LN.out
            repeat still_step
            still_call LO.out
            repeat still_step
            refine wpStill_nil ?_
            go_wp2_with fail
            obtain ⟨hq, hD⟩ := HW.out
            have hDT := HX.out.2.2.1.2.2.1
            have hDw := HX.out.2.2.1.2.1 D hDT
            have hTD : BT ≠ D := fun e => by
              have h2 := hq.ct
              rw [e] at h2
              rw [h2] at hD
              cases hD
            have hT := heap_setCell_same WZ BT 0 _ 4 (.bool true) hq.ct
            have hD2 : (WZ.setCell ⟨BT, 0, none⟩ (.bool true)).heap[D]? = some (.deferred (some [])) := (Below.heap_setCell _ _ _ _ (fun e => hTD e.symm)).trans hD
            have hb2 : Below w.heap.size w (WZ.setCell ⟨BT, 0, none⟩ (.bool true)) := hq.rs.b.setCell (p := ⟨BT, 0, none⟩) (hq.up _ hq.bt) _
            refine ⟨by simp, .inl ⟨_, _, rfl, run_takeDeferred hD2, ?_⟩⟩
            refine ⟨_, results_cell1 (by rfl) _ _ BT true rfl ?_, rfl, hb2.trans ((Turn.put (WZ.setCell ⟨BT, 0, none⟩ (.bool true)) D (.deferred none)).below hb2.size (fun b hb => by obtain rfl := List.mem_singleton.1 hb; exact hDw))⟩
            rw [cell_of_row _ _ 0 _ 4 (0, 0) ((World.putObj_heap_other hTD).trans hT)]; rfl
end Go.Proofs.Ytoccgbfnbpkphaa
