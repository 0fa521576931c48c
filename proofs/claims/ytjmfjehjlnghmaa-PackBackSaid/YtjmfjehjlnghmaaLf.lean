import Derived.Test.YtjmfjehjlnghmaaLe
namespace Go.Proofs.Ytjmfjehjlnghmaa
open Go.RowKit
set_option linter.unusedVariables false
set_option linter.unusedSimpArgs false

theorem told_none {W w' : World} {e : Ending} (h : Told W none e w') : e = .returned (.tuple #[.slice none 0 0, .int .i64 10]) ∧ Below W.heap.size W w' := by
  rcases h with ⟨_, h1, h2⟩ | ⟨ls, got, hs, _⟩
  · exact ⟨h1, h2⟩
  · cases hs
set_option maxRecDepth 100000 in
set_option maxHeartbeats 4000000 in
theorem back_law (v : Value) (w : World) (hv : CameS w v) :
    Calls Try.prog 3 #[v] w fun e w' => e = .returned (.bool true) ∧ Below w.heap.size w w' := by
  obtain ⟨A, n, c, rfl, hbig | ⟨ss, hl, hn, hss⟩⟩ := hv
  all_goals have HFit := Lib.hid (fit_any w)
  · obtain ⟨hbig, hbm⟩ := hbig
    go_enter Try.func3, Try.ntmps3
    go_wp2_with fail
    refine HFit.out.mono ?_
    rintro e w1 ⟨rfl, hb1⟩
    have HB1 := Lib.hid hb1
    clear hb1
    go_wp2_with fail
    go_ret
    exact ⟨rfl, HB1.out⟩
  · obtain ⟨qs, hql, hsr⟩ := CameS.read hl hss
    have hright := Pk.right_labOf qs
    have hLl : (qs.map Pk.labOf).length = n := by rw [List.length_map, hql]
    have hle := Pk.labs_le hright
    rw [hLl] at hle
    have HQ := Lib.hid hql
    have HS := Lib.hid hsr
    have HRI := Lib.hid hright
    have HLL := Lib.hid hLl
    have HLE := Lib.hid hle
    clear hql hsr hright hLl hle hl hss
    go_enter Try.func3, Try.ntmps3
    go_wp2_with fail
    refine HFit.out.mono ?_
    rintro e w1 ⟨rfl, hb1⟩
    have H1 := Lib.hid (show NB w.heap.size w1 (Pk.labs ((qs.map Pk.labOf).take 0)) (.slice none 0 0) ∧ SR w1 A qs ∧ Below w.heap.size w w1 from ⟨NB.nil _ _, HS.out.below hb1, hb1⟩)
    clear hb1 HFit
    go_wp2_with fail
    go_loopg [3, 22] n (fun g v i wr => ∃ j : Nat, j ≤ n ∧ Hid (g = n - j) ∧ i = .int .i64 j ∧ Hid (NB w.heap.size wr (Pk.labs ((qs.map Pk.labOf).take j)) v ∧ SR wr A qs ∧ Below w.heap.size w wr))
    case atStart => exact ⟨0, by omega, Lib.hid (by omega), rfl, H1⟩
    case round =>
      obtain ⟨j, hj, hg, rfl, hrl⟩ := hrel
      clear H1
      by_cases hlt : j < n
      · obtain ⟨⟨S, ls⟩, hq⟩ : ∃ q, qs[j]? = some q := ⟨_, List.getElem?_eq_getElem (by rw [HQ.out]; exact hlt)⟩
        obtain ⟨b, off, a, m, d, rfl, hbl, x1, x2, hint⟩ := hrl.out.2.1 j S ls hq
        have hlab : (qs.map Pk.labOf)[j]? = some (Lab.seedD S, Lab.seedP S ls) := by rw [List.getElem?_map, hq]; rfl
        have hst := Lib.hid (Pk.labs_take hlab)
        have hsm := Pk.small_of_right (HRI.out _ (List.mem_of_getElem? hlab))
        have hsz := hrl.out.2.2.size
        obtain ⟨W3, e3⟩ : ∃ W3, W3 = wr.alloc (Obj.cells #[.int .i64 S, .slice a m d] 27) := ⟨_, rfl⟩
        have hb3 : Below wr.heap.size wr W3 := by rw [e3]; exact (Below.refl _ _).alloc (Nat.le_refl _) _
        obtain ⟨X, eX⟩ : ∃ X, wr.heap.size = X := ⟨_, rfl⟩
        have hk3 : W3.heap[X]? = some (Obj.cells #[.int .i64 S, .slice a m d] 27) := by rw [e3, ← eX]; exact heap_alloc_new wr _
        have CS := Lib.hid (seed_is S (.slice a m d) ls W3 (hint.below hb3))
        have y0 : W3.cell? ⟨X, 0, none⟩ = some (.int .i64 S) := by rw [cell_of_row _ _ 0 _ 27 (0, 0) hk3]; rfl
        have y1 : W3.cell? ⟨X, 1, none⟩ = some (.slice a m d) := by rw [cell_of_row _ _ 1 _ 27 (0, 0) hk3]; rfl
        have H3 := Lib.hid (And.intro hb3 hsm)
        obtain ⟨A7, c7, rfl, hc7, hy7, hA7⟩ := hrl.out.1.form
        obtain ⟨l7, el7⟩ : ∃ l, (Pk.labs ((qs.map Pk.labOf).take j)).length = l := ⟨_, rfl⟩
        have hl7 : l7 ≤ 3100 := by rw [← el7]; have := Pk.labs_take_len (qs.map Pk.labOf) j; have := HLE.out; omega
        have HY := Lib.hid (And.intro hy7 (And.intro hA7 el7))
        rw [el7]
        clear hq hlab hsm hb3 hk3 hint hc7 hy7 hA7 el7 hbl
        go_upto_region 9 with fail
        rw [← e3]
        clear e3 x1 x2
        go_wp2_with fail
        refine CS.out.mono ?_
        rintro e w4 ⟨pv, rfl, hfine, ho4, hb4⟩
        have hb24 : Below wr.heap.size wr w4 := H3.out.1.trans (hb4.mono H3.out.1.size)
        have hrc4 := rc_of_owns ho4 (by have := hfine.2.2.2.2; omega)
        have CP := Lib.hid (plabel_any A7 c7 l7 (Pk.labs ((qs.map Pk.labOf).take j)) (Lab.seedD S) pv (Lab.seedP S ls) w4 HY.out.2.2 (by omega) (HY.out.1.br.below hb24) HY.out.2.1 H3.out.2 hrc4)
        have H4 := Lib.hid hb24
        clear hb4 hb24 hrc4 ho4 hfine y0 y1 CS
        go_wp2_with fail
        refine CP.out.mono ?_
        rintro e w5 ⟨v5, rfl, hn5, hb5⟩
        have hnx := Lib.hid (show NB w.heap.size w5 (Pk.labs ((qs.map Pk.labOf).take (j + 1))) v5 ∧ SR w5 (some ⟨b, off, none⟩) qs ∧ Below w.heap.size w w5 from by
          have h25 : Below wr.heap.size wr w5 := H4.out.trans (hb5.mono H4.out.size)
          refine ⟨?_, hrl.out.2.1.below h25, hrl.out.2.2.trans (h25.mono hsz)⟩
          rw [hst.out]
          exact hn5.mono (Nat.le_trans hsz H4.out.size))
        clear hn5 hb5 CP H4
        go_wp2_with fail
        go_roundg (n - (j + 1))
        case measure => rw [hg.out]; omega
        case rel => exact ⟨j + 1, by omega, Lib.hid rfl, by go_num, hnx⟩
      · obtain rfl : j = n := by omega
        have e7 : (qs.map Pk.labOf).take j = qs.map Pk.labOf := List.take_of_length_le (by rw [HLL.out]; omega)
        rw [e7] at hrl
        clear e7 hg
        obtain ⟨LL, eLL⟩ : ∃ LL, qs.map Pk.labOf = LL := ⟨_, rfl⟩
        rw [eLL] at hrl HRI HLL HLE
        have HLQ := Lib.hid eLL
        clear eLL
        obtain ⟨A3, c3, rfl, hc3, hy3, hA3⟩ := hrl.out.1.form
        obtain ⟨bL, ebL⟩ : ∃ bL, Pk.labs LL = bL := ⟨_, rfl⟩
        have T1 := Lib.hid (show Pk.tell j bL = some LL by rw [← ebL, ← HLL.out]; exact Pk.tell_of HRI.out)
        have T2 := Lib.hid (show Pk.tell j (bL ++ [0]) = none by rw [← ebL, ← HLL.out]; exact Pk.tell_more HRI.out)
        have T3 := Lib.hid (show Pk.tell (j + 1) bL = none by rw [← ebL, ← HLL.out]; exact Pk.tell_next HRI.out)
        have T4 := Lib.hid (show bL ≠ [] → Pk.tell j bL.dropLast = none by rw [← ebL, ← HLL.out]; exact Pk.tell_less HRI.out)
        have HBY := Lib.hid (show ∀ x ∈ bL, x < 256 by rw [← ebL]; exact Pk.labs_byte HRI.out)
        have hbl := HLE.out
        rw [ebL] at hbl hc3 hy3 ⊢
        obtain ⟨L, eL⟩ : ∃ L, bL.length = L := ⟨_, rfl⟩
        rw [eL] at hbl hc3 ⊢
        have HEL := Lib.hid eL
        have hL : L ≤ 3100 := by omega
        have CL := Lib.hid (labels_any A3 c3 L j bL wr eL (by omega) hy3.br hA3 HBY.out (by omega))
        rw [T1.out] at CL
        have H2 := Lib.hid (And.intro hy3 (And.intro hrl.out.2.1 hrl.out.2.2))
        have HA3 := Lib.hid hA3
        clear ebL eL hbl hy3 hA3 hrl HLE
        go_wp2_with fail
        refine CL.out.mono ?_
        intro e w2 ht
        rcases ht with ⟨hnone, _⟩ | ⟨ls, got, hsome, rfl, hls, hb2⟩
        · cases hnone
        obtain rfl : LL = ls := by injection hsome
        obtain ⟨A4, c4, rfl, hlr⟩ := hls.form (fun l hl => by have := (Pk.right_small (HRI.out l hl)).2.2.1; omega)
        have H5 := Lib.hid (show YR w2 A3 bL ∧ SR w2 A qs ∧ Below w.heap.size w w2 from ⟨H2.out.1.below hb2, H2.out.2.1.below hb2, H2.out.2.2.trans (hb2.mono H2.out.2.2.size)⟩)
        have HG := Lib.hid hlr
        rw [HLL.out]
        clear hsome hls hb2 hlr CL H2 T1
        go_wp2_with fail
        go_loopg [8, 9, 49] j (fun g t8 t9 i wr => ∃ k : Nat, k ≤ j ∧ Hid (g = j - k) ∧ i = .int .i64 k ∧ Hid (LR wr A4 LL ∧ YR wr A3 bL ∧ SR wr A qs ∧ Below w.heap.size w wr))
        case atStart => exact ⟨0, by omega, Lib.hid (by omega), rfl, Lib.hid ⟨HG.out, H5.out.1, H5.out.2.1, H5.out.2.2⟩⟩
        case round =>
          obtain ⟨k, hk, hg, rfl, hrl⟩ := hrel
          clear H5 HG
          by_cases hlt : k < j
          · obtain ⟨⟨S, ls⟩, hq⟩ : ∃ q, qs[k]? = some q := ⟨_, List.getElem?_eq_getElem (by rw [HQ.out]; exact hlt)⟩
            have hlab : LL[k]? = some (Lab.seedD S, Lab.seedP S ls) := by rw [← HLQ.out, List.getElem?_map, hq]; rfl
            obtain ⟨g, a, m, d, rfl, hgl, x1, x2, hrc⟩ := hrl.out.1 k _ _ hlab
            obtain ⟨b, off, a', m', d', rfl, hbl, z1, z2, hint⟩ := hrl.out.2.2.1 k S ls hq
            have hsz := hrl.out.2.2.2.size
            obtain ⟨D, eD⟩ : ∃ D, Lab.seedD S = D := ⟨_, rfl⟩
            obtain ⟨ps, ep⟩ : ∃ ps, Lab.seedP S ls = ps := ⟨_, rfl⟩
            have HFI := Lib.hid (Lab.fine_seed S ls)
            rw [eD] at x1
            rw [ep] at hrc
            rw [eD, ep] at HFI
            obtain ⟨W3, e3⟩ : ∃ W3, W3 = wr.alloc (Obj.cells #[.int .i64 D, .slice a m d] 31) := ⟨_, rfl⟩
            have hb3 : Below wr.heap.size wr W3 := by rw [e3]; exact (Below.refl _ _).alloc (Nat.le_refl _) _
            obtain ⟨X, eX⟩ : ∃ X, wr.heap.size = X := ⟨_, rfl⟩
            have hk3 : W3.heap[X]? = some (Obj.cells #[.int .i64 D, .slice a m d] 31) := by rw [e3, ← eX]; exact heap_alloc_new wr _
            have SC := Lib.hid (fun (wx : World) (h : Below W3.heap.size W3 wx) => (show wx.cell? ⟨X, 0, none⟩ = some (.int .i64 D) ∧ wx.cell? ⟨X, 1, none⟩ = some (.slice a m d) ∧ wx.cell? ⟨b, off + k * 2, none⟩ = some (.int .i64 S) ∧ wx.cell? ⟨b, off + k * 2 + 1, none⟩ = some (.slice a' m' d') from by
              have k4 : wx.heap[X]? = some (Obj.cells #[.int .i64 D, .slice a m d] 31) := by rw [h.block _ (Array.getElem?_eq_some_iff.1 hk3).1]; exact hk3
              obtain ⟨q1, q2⟩ := cells2 k4
              have hx := hb3.trans (h.mono hb3.size)
              exact ⟨q1, q2, by rw [hx.cell (p := ⟨b, _, none⟩) hbl]; exact z1, by rw [hx.cell (p := ⟨b, _, none⟩) hbl]; exact z2⟩))
            have CS := Lib.hid (fun (W : World) (h : Below W3.heap.size W3 W) => (show Calls Try.prog 10 #[.agg #[.int .i64 S, .slice a' m' d']] W (fun e w' => ∃ pv, e = .returned (.agg #[.int .i64 D, pv]) ∧ RC w'.heap.size w' pv ps ∧ Below W.heap.size W w') from
              (seed_is S (.slice a' m' d') ls W (hint.below (hb3.trans (h.mono hb3.size)))).mono fun e w' ⟨pv, q1, q2, q3, q4⟩ => by
                rw [eD] at q1
                rw [ep] at q3
                exact ⟨pv, q1, rc_of_owns q3 (by have := HFI.out.2.2.2.2; omega), q4⟩))
            have CM := Lib.hid (fun (W : World) (pv : Value) (h : Below W3.heap.size W3 W) (hr : RC W.heap.size W pv ps) => (show Calls Try.prog 12 #[.agg #[.int .i64 D, .slice a m d], .agg #[.int .i64 D, pv]] W (fun e w' => e = .returned (.bool true) ∧ Below W.heap.size W w') from by
              have := same_any (.slice a m d) pv ps ps D D W (((hrc.below (hb3.trans (h.mono hb3.size))).reads (by have := hb3.size; have := h.size; omega))) (hr.reads (Nat.le_refl _))
              rwa [decide_eq_true ⟨rfl, rfl⟩] at this))
            have HB3 := Lib.hid hb3
            obtain ⟨k0, k1, k2, k3⟩ := SC.out W3 (Below.refl _ _)
            have hcall := Lib.hid ((Below.refl W3.heap.size W3).drew)
            clear hq hlab hrc hint hb3 hk3 eD ep hgl hbl
            go_upto_region 17 with fail
            rw [← e3]
            clear e3 x1 x2 z1 z2
            go_region_held3 (fun w' => w'.cell? ⟨X, 0, none⟩ = some (.int .i64 D) ∧ w'.cell? ⟨X, 1, none⟩ = some (.slice a m d) ∧ w'.cell? ⟨b, off + k * 2, none⟩ = some (.int .i64 S) ∧ w'.cell? ⟨b, off + k * 2 + 1, none⟩ = some (.slice a' m' d'))
              (first | exact SC.out _ hcall.out)
              (first
                | (go_at_call_of 10 (Value.agg #[Value.int .i64 S, .slice a' m' d'])
                   with_reducible refine (CS.out _ hcall.out).mono ?_
                   rintro e wq ⟨pv, rfl, hrp, hb'⟩
                   have RP := Lib.hid hrp
                   replace hcall := Lib.hid (hcall.out.trans (hb'.mono hcall.out.size))
                   clear hb' hrp)
                | (go_at_call_of 12 (Value.agg #[Value.int .i64 D, .slice a m d])
                   with_reducible refine (CM.out _ _ hcall.out RP.out).mono ?_
                   rintro e wq2 ⟨rfl, hb'⟩
                   replace hcall := Lib.hid (hcall.out.trans (hb'.mono hcall.out.size))
                   clear hb'))
            all_goals
              have hnx := Lib.hid (show LR _ (some ⟨g, 0, none⟩) LL ∧ YR _ A3 bL ∧ SR _ (some ⟨b, off, none⟩) qs ∧ Below w.heap.size w _ from
                have hbb := HB3.out.trans (hcall.out.mono HB3.out.size)
                ⟨hrl.out.1.below hbb, hrl.out.2.1.below hbb, hrl.out.2.2.1.below hbb, hrl.out.2.2.2.trans (hbb.mono hsz)⟩)
              go_wp2_with fail
              go_roundg (j - (k + 1))
              case measure => rw [hg.out]; omega
              case rel => exact ⟨k + 1, by omega, Lib.hid rfl, by go_num, hnx⟩
          · obtain ⟨i0, hi, hz0, hz1, hz2⟩ := info_parts info5
            have hY := hrl.out.2.1
            have HB4 := Lib.hid hrl.out.2.2.2
            have hsz := hrl.out.2.2.2.size
            have HYR := Lib.hid hY
            have hbr := Lib.hid hY.br
            clear hrl hY
            go_wp2_with (at_builtin; refine wpList_append_bytes _ rfl (.const (.slice none 0 0)) (.tmp 64) 24 rfl wr.heap.size 5 i0 (.int .u8 0) 1 Try.underlying24 hi hz0 hz1 hz2 rfl (.slice none 0 0) 0 [] rfl (World.ownsRow_nil _ _ _ _) A3 L c3 bL HEL.out rfl hbr.out HA3.out ?c1 ?c2 ?c3 ?_)
            case c1 => unfold maxLen; omega
            case c2 => omega
            case c3 => omega
            intro v1 w4 hown4 hg4
            have hb4 : Below wr.heap.size wr w4 := (Below.refl _ _).grown hg4 (Nat.le_refl _) (fun k hk => by simp [Value.ownBlock] at hk)
            have H4 := Lib.hid (And.intro hown4 hb4)
            have hsz4 := hb4.size
            clear hown4 hg4 hb4
            go_wp2_with (at_builtin; refine wpList_append_own _ rfl (.tmp 65) (.tmp 66) 24 rfl wr.heap.size 5 i0 (.int .u8 0) 1 1 Try.underlying24 hi hz0 hz1 hz2 rfl (by decide) v1 L (Y bL) rfl (H4.out.1.alloc _) ⟨w4.heap.size, 0, none⟩ 1 1 [.int .u8 0] rfl rfl ?d0 (by simp [Value.oneCell']) (by unfold maxLen; omega) (by omega) (by simp; omega) ?_)
            case d0 => exact World.news_of_block (cs := #[.int .u8 0]) (t := 5) (fr := (0, 0)) (heap_alloc_new w4 _)
            intro v2 w5 hown5 hg5 _
            have hb45 : Below wr.heap.size wr w5 := ((H4.out.2).alloc hsz4 (Obj.cells #[.int .u8 0] 5)).grown hg5 (by simp; omega) (fun q hq => (H4.out.1.lt q hq).1)
            have hnb : NB wr.heap.size w5 (bL ++ [0]) v2 := by
              unfold NB
              rw [List.length_append, HEL.out, Y_app]
              exact hown5
            obtain ⟨A5, c5, rfl, hc5, hy5, hA5⟩ := hnb.form
            have hl5 : (bL ++ [0]).length = L + 1 := by rw [List.length_append, HEL.out]; rfl
            have CF := Lib.hid (labels_any A5 c5 (L + 1) j (bL ++ [0]) w5 hl5 (by omega) hy5.br hA5 (fun x hx => by
              rcases List.mem_append.1 hx with hx | hx
              · exact HBY.out x hx
              · simp at hx; omega) (by omega))
            rw [T2.out] at CF
            have H6 := Lib.hid (And.intro (HYR.out.below hb45) (HB4.out.trans (hb45.mono hsz)))
            rw [hl5] at hc5 ⊢
            clear hown5 hg5 hb45 hnb hy5 hA5 hl5 H4 hsz4 hbr HB4 HYR T2
            go_wp2_with fail
            refine CF.out.mono ?_
            intro e w6 ht
            obtain ⟨rfl, hb6⟩ := told_none ht
            have H7 := Lib.hid (And.intro (H6.out.1.below hb6) (H6.out.2.trans (hb6.mono H6.out.2.size)))
            have CG := Lib.hid (labels_any A3 c3 L (j + 1) bL w6 HEL.out (by omega) H7.out.1.br HA3.out HBY.out (by omega))
            rw [T3.out] at CG
            clear hb6 H6 CF T3
            go_wp2_with fail
            refine CG.out.mono ?_
            intro e w7 ht
            obtain ⟨rfl, hb7⟩ := told_none ht
            have H8 := Lib.hid (And.intro (H7.out.1.below hb7) (H7.out.2.trans (hb7.mono H7.out.2.size)))
            clear hb7 H7 CG
            by_cases hL0 : 0 < L
            · have hdl : bL.dropLast.length = L - 1 := by rw [List.length_dropLast, HEL.out]
              obtain ⟨M, eM⟩ : ∃ M, M = L - 1 := ⟨_, rfl⟩
              have hML : L = M + 1 := by omega
              have CH := Lib.hid (labels_any A3 c3 M j bL.dropLast w7 (by rw [hdl]; omega) (by omega) (by
                have := (H8.out.1.take M).br
                rwa [show bL.take M = bL.dropLast by rw [List.dropLast_eq_take, HEL.out, eM]] at this) HA3.out (fun x hx => HBY.out x (List.dropLast_subset _ hx)) (by omega))
              rw [T4.out (by intro e; rw [e] at HEL; have := HEL.out; simp at this; omega)] at CH
              obtain rfl : L = M + 1 := hML
              have H9 := Lib.hid H8.out.2
              have hMc : M ≤ c3 := by omega
              have h0M : 0 < ((M : Int) + 1) := by omega
              clear hdl eM hL0 H8
              go_wp2_with fail
              refine CH.out.mono ?_
              intro e w8 ht
              obtain ⟨rfl, hb8⟩ := told_none ht
              have H10 := Lib.hid (H9.out.trans (hb8.mono H9.out.size))
              clear hb8 CH
              go_wp2_with fail
              go_ret
              exact ⟨by first | rfl | simp, H10.out⟩
            · obtain rfl : L = 0 := by omega
              have H9 := Lib.hid H8.out.2
              clear hL0 H8
              go_wp2_with fail
              go_ret
              exact ⟨by first | rfl | simp, H9.out⟩
end Go.Proofs.Ytjmfjehjlnghmaa
