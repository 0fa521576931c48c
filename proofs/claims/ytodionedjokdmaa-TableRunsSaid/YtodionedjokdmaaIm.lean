/- play: objects go; the walk. -/
import Derived.Test.YtodionedjokdmaaIl
import Derived.Test.YtodionedjokdmaaIk
set_option linter.unusedVariables false
set_option linter.unusedSimpArgs false
namespace Go.Proofs.Ytodionedjokdmaa
open Go.RowKit Go.Maps
set_option linter.unusedVariables false
set_option linter.unusedSimpArgs false
theorem fldC2 (k n h w on : Int) (X : World) : (Instr.field 30 (.agg #[.int .i64 k, .int .u64 n, .int .u64 h, .int .i64 w, .int .i64 on]) 2).run Try.prog X = .ok (.int .u64 h) X := by kernel_rfl
theorem fldC0 (k n h w on : Int) (X : World) : (Instr.field 30 (.agg #[.int .i64 k, .int .u64 n, .int .u64 h, .int .i64 w, .int .i64 on]) 0).run Try.prog X = .ok (.int .i64 k) X := by kernel_rfl
theorem mk_mapB (w : World) : (Instr.makeMap 94 none).run Try.prog w = .ok (.map (some w.heap.size)) (w.alloc (.map #[] 0)) := by kernel_rfl
/-- What stands while it is found out who goes. -/
structure F1 (W : World) (T2 : List Nat) (t mB BO : Nat) (os : List Nat) (G : GM) (gm : Nat → Option CV) (v : Value) (C : Nat) (row : Array Value) (mG : Nat) (D : Nat → Bool) (k : Nat) (wr : World) : Prop where
  ps : PZ W T2 t mB BO os G gm v wr
  mp : MapG rdB wr mG (os.take k).length (os.take k) (gD os D k)
  c : wr.heap[C]? = some (Obj.cells row 30)
  mT : mG ∈ T2
  ne : mG ≠ mB
theorem PZ.turn {W w w' : World} {T : List Nat} {t mB BO : Nat} {os : List Nat} {G : GM} {gm : Nat → Option CV} {v : Value} {X : Nat} (h : PZ W T t mB BO os G gm v w) (ht : Turn [X] w w') (hX : X ∈ T) (hne : X ≠ mB) (hr : ∀ cs u, w.heap[X]? ≠ some (Obj.cells cs u)) : PZ W T t mB BO os G gm v w' := by
  obtain ⟨M, hts⟩ := h.ts
  refine ⟨⟨M, hts.turn (ht.mono fun b hb => by rw [List.mem_singleton.1 hb]; exact hX) h.wt⟩, ⟨h.lp.mp.same (ht.block _ h.lp.mp.lt fun hm => hne (List.mem_singleton.1 hm).symm), (ht.block BO (Array.getElem?_eq_some_iff.1 h.lp.bx).1 fun hm => ?_).trans h.lp.bx, h.lp.rw.keep fun b cur hb hc => ⟨hb, ht.block b (Array.getElem?_eq_some_iff.1 hc).1 fun hm => ?_⟩, h.lp.mt, h.lp.bt⟩, h.wt, h.lm, h.tr⟩
  · have := h.lp.bx
    rw [List.mem_singleton.1 hm] at this
    exact hr _ _ this
  · rw [List.mem_singleton.1 hm] at hc
    exact hr _ _ hc
theorem F1.step {W : World} {T2 : List Nat} {t mB BO : Nat} {os : List Nat} {G : GM} {gm : Nat → Option CV} {v : Value} {C : Nat} {row : Array Value} {mG : Nat} {D : Nat → Bool} {k x : Nat} {wr : World} (h : F1 W T2 t mB BO os G gm v C row mG D k wr) (hx : os[k]? = some x) :
    ∃ w', (Instr.mapUpdate 94 (.map (some mG)) (.int .u64 (x : Int)) (.bool (D x))).run Try.prog wr = .ok () w' ∧ F1 W T2 t mB BO os G gm v C row mG D (k + 1) w' := by
  obtain ⟨r, htr⟩ := h.ps.tr
  have hxo : x ∈ os := List.mem_of_getElem? hx
  have hx15 := (htr.nz x hxo).2
  obtain ⟨w', hrun, hm, ht⟩ := h.mp.store Try.underlying94 rd_B (Nat.lt_of_le_of_lt (Nat.le_trans (List.length_take_le' _ _) htr.len) (by decide)) (u64_of (n := x) (by omega)) (D x)
  rw [if_neg (not_take htr.nd hx), gD_succ htr.nd hx] at hm
  have e : os.take k ++ [x] = os.take (k + 1) := by rw [List.take_add_one, hx]; rfl
  rw [e] at hm
  refine ⟨w', hrun, h.ps.turn ht h.mT h.ne fun cs u hc => h.mp.not_row hc, hm.tight, (ht.block C (Array.getElem?_eq_some_iff.1 h.c).1 fun hm2 => ?_).trans h.c, h.mT, h.ne⟩
  have := h.c
  rw [List.mem_singleton.1 hm2] at this
  exact h.mp.not_row this
set_option maxHeartbeats 4000000 in
set_option maxRecDepth 100000 in
theorem play_rem {W w : World} {T : List Nat} {t mB BO : Nat} {os : List Nat} {G : GM} {gm : Nat → Option CV} {v : Value} (h : PZ W T t mB BO os G gm v w) (k wh on : Int) (n hm : Nat) (hk : bits .and .i64 k 3 = 0) :
    Calls Try.prog 10 #[.pointer (some ⟨t, 0, none⟩), .map (some mB), .pointer (some ⟨BO, 0, none⟩), .agg #[.int .i64 k, .int .u64 (n : Int), .int .u64 (hm : Int), .int .i64 wh, .int .i64 on]] w fun e w' => e = .returned (.bool true) ∧
      ∃ T' os' G' gm' v', (∀ b ∈ T, b ∈ T') ∧ PZ W T' t mB BO os' G' gm' v' w' := by
  obtain ⟨n1, en, hn1⟩ := u15 n
  obtain ⟨h1, eh, hh1⟩ := u15 hm
  obtain ⟨a, u, b, p, f1, f2, f3, f4, hp1, hp6⟩ := mod6 wh
  obtain ⟨r, htr⟩ := h.tr
  obtain ⟨D, hD⟩ := Dn_ex htr n1
  have ho15 := htr.len
  have hbo := (Array.getElem?_eq_some_iff.1 h.lp.bx).1
  obtain ⟨A, cp, rfl, hcp, _, hlr⟩ := h.lp.rw.form
  have y0 := h.lp.cell
  obtain ⟨l, el⟩ : ∃ l, os.length = l := ⟨_, rfl⟩
  rw [el] at hcp ho15 y0 h
  clear hlr
  have HH := Lib.hid (And.intro h (And.intro htr (And.intro hD el)))
  have HN := Lib.hid (show n1 < 16 ∧ h1 < 16 ∧ 1 ≤ p ∧ p ≤ 6 ∧ l ≤ 15 ∧ l ≤ cp from ⟨hn1, hh1, hp1, hp6, ho15, hcp⟩)
  clear h hn1 hh1 hp1 hp6 htr hD el ho15 hcp
  go_enter Try.func10, Try.ntmps10
  go_upto_region 15 with fail
  have h1' := HH.out.1.alloc (Obj.cells #[.int .i64 k, .int .u64 (n1 : Int), .int .u64 (h1 : Int), .int .i64 p, .int .i64 on] 30)
  have hC1 := heap_alloc_new w (Obj.cells #[.int .i64 k, .int .u64 (n1 : Int), .int .u64 (h1 : Int), .int .i64 p, .int .i64 on] 30)
  have y1 := (Below.cell (below_alloc1 w (Obj.cells #[.int .i64 k, .int .u64 (n1 : Int), .int .u64 (h1 : Int), .int .i64 p, .int .i64 on] 30)) hbo).trans y0
  have hs1 : (w.alloc (Obj.cells #[.int .i64 k, .int .u64 (n1 : Int), .int .u64 (h1 : Int), .int .i64 p, .int .i64 on] 30)).heap.size = w.heap.size + 1 := by simp
  obtain ⟨w1, e1⟩ : ∃ w1, w.alloc (Obj.cells #[.int .i64 k, .int .u64 (n1 : Int), .int .u64 (h1 : Int), .int .i64 p, .int .i64 on] 30) = w1 := ⟨_, rfl⟩
  obtain ⟨C, eC⟩ : ∃ C, w.heap.size = C := ⟨_, rfl⟩
  rw [e1, eC] at h1' hs1
  rw [e1] at y1
  rw [e1, eC] at hC1
  rw [e1, eC]
  have h2' := h1'.alloc (.map #[] 0)
  have hG2 := MapG.new (R := rdB) (β := Bool) w1
  have hC2 := ((below_alloc1 w1 (.map #[] 0)).block C (by omega)).trans hC1
  have y2 := (Below.cell (below_alloc1 w1 (.map #[] 0)) (by omega : BO < w1.heap.size)).trans y1
  obtain ⟨w2, e2⟩ : ∃ w2, w1.alloc (.map #[] 0) = w2 := ⟨_, rfl⟩
  obtain ⟨mG, eG⟩ : ∃ mG, w1.heap.size = mG := ⟨_, rfl⟩
  rw [e2, eG] at h2' hG2
  rw [e2] at hC2 y2
  have hmB := h1'.lp.mp.lt
  have HF : Hid (F1 W (mG :: C :: T) t mB BO os G gm (.slice A l cp) C #[.int .i64 k, .int .u64 (n1 : Int), .int .u64 (h1 : Int), .int .i64 p, .int .i64 on] mG D 0 w2) := Lib.hid ⟨h2', by rw [show gD os D 0 = fun _ => none by funext y; unfold gD; simp]; simpa using hG2, hC2, by simp, by omega⟩
  have H2 := Lib.hid (And.intro eC (And.intro hs1 eG))
  have hmm := mk_mapB
  clear h1' hC1 hs1 e1 eC h2' hG2 hC2 hmB hbo y0 f1 f2 f3 f4 en eh hk
  go_upto_region 16 with fail
  try rw [e2]
  try rw [eG]
  clear e2 eG
  go_wp2_with fail
  clear hmm y1 y2
  go_loopg [127] l (fun gh v127 wr => ∃ k0 : Nat, k0 ≤ l ∧ gh = l - k0 ∧ v127 = .int .i64 k0 ∧ Hid (F1 W (mG :: C :: T) t mB BO os G gm (.slice A l cp) C #[.int .i64 k, .int .u64 (n1 : Int), .int .u64 (h1 : Int), .int .i64 p, .int .i64 on] mG D k0 wr))
  case atStart => exact ⟨0, by omega, by omega, rfl, HF⟩
  case round =>
    clear HF
    obtain ⟨k0, hk0, hg0, rfl, hI⟩ := hrel
    by_cases hlt : k0 < l
    · have l1 : (k0 : Int) < l := by omega
      have hI := hI.out
      obtain ⟨x, hx⟩ : ∃ x, os[k0]? = some x := ⟨_, List.getElem?_eq_getElem (by rw [HH.out.2.2.2]; exact hlt)⟩
      obtain ⟨A', c', ev, _, _, hlr⟩ := hI.ps.lp.rw.form
      injection ev with ev1 ev2 ev3
      subst ev1
      obtain ⟨xb, xo, rfl, xl, q1⟩ := hlr k0 x hx
      unfold inU at q1
      have htr := HH.out.2.1
      have hxo : x ∈ os := List.mem_of_getElem? hx
      have hx15 := (htr.nz x hxo).2
      obtain ⟨o, ho⟩ := Option.isSome_iff_exists.1 ((htr.mem x).1 hxo)
      obtain ⟨c, hc, _, hch, _⟩ := hI.ps.lm.some ho
      obtain ⟨hgd, hDx⟩ := home_at htr HH.out.2.2.1 hx ho
      have q2 := hI.ps.look (x := x) (u64_of (by omega))
      rw [hc] at q2
      obtain ⟨c1, c2, c3, c4, c5⟩ := c
      dsimp only [Option.getD_some, vC] at q2 hch
      subst hch
      have q3 := hI.mp.at_ Try.underlying94 rd_B (zeroB wr) (j := o.hm) (u64_of (by have := (htr.hm x o ho).1; omega))
      rw [hgd] at q3
      dsimp only [vB] at q3
      obtain ⟨w', r1, hF⟩ := hI.step hx
      have d1 : wr.cell? ⟨C, 1, none⟩ = some (.int .u64 (n1 : Int)) := by rw [cell_of_row _ _ _ _ _ (0, 0) hI.c]; rfl
      rw [hDx, ← int_beq] at r1
      have i1 : IntKind.i64.wrap ((k0 : Int) + 1) = ((k0 + 1 : Nat) : Int) := by rw [IntKind.wrap_i64]; have := HN.out; omega
      have fl := fldC2 1 c2 (o.hm : Int) o.kd c5 wr
      have HF' := Lib.hid hF
      obtain ⟨b1, eb1⟩ : ∃ b1, ((x : Int) == (n1 : Int)) = b1 := ⟨_, rfl⟩
      obtain ⟨b2, eb2⟩ : ∃ b2, D o.hm = b2 := ⟨_, rfl⟩
      rw [eb2] at q3
      rw [eb1, eb2] at r1
      clear hI hF hlr hx htr hxo hx15 ho hc hgd hDx ev2 ev3 eb2
      cases b1
      all_goals
        simp only [Bool.true_or, Bool.false_or] at r1
        go_wp2_with fail
        go_roundg (l - (k0 + 1))
        case rel => exact ⟨k0 + 1, by omega, rfl, by first | rfl | rw [i1], HF'⟩
        case measure => omega
    · obtain rfl : k0 = l := by omega
      have hI := hI.out
      obtain ⟨M, hts⟩ := hI.ps.ts
      have htr := HH.out.2.1
      have el := HH.out.2.2.2
      have CR := Lib.hid (remove_any (n := n1) hts (u64_of (by have := HN.out; omega)) (fun x o hx => by have := htr.kl x o hx; omega) (by have := htr.len; omega))
      have d1 : wr.cell? ⟨C, 1, none⟩ = some (.int .u64 (n1 : Int)) := by rw [cell_of_row _ _ _ _ _ (0, 0) hI.c]; rfl
      have HI := Lib.hid hI
      clear hI hts htr hk0 hg0 hlt
      go_wp2_with fail
      refine CR.out.mono ?_; rintro e wx ⟨vg, rfl, hrm⟩
      clear CR d1
      obtain ⟨hM1, hTr'⟩ := rm_spec HH.out.2.1 n1 HH.out.2.2.1 os.length (Nat.le_refl _)
      obtain ⟨⟨ns', hts'⟩, hrow, hsm, hob⟩ := hrm
      obtain ⟨G', eG'⟩ : ∃ G', (rm os.length G n1).1 = G' := ⟨_, rfl⟩
      obtain ⟨L, eL⟩ : ∃ L, (rm os.length G n1).2 = L := ⟨_, rfl⟩
      rw [eG'] at hM1 hTr' hts'
      rw [eL] at hM1 hrow
      have hI := HI.out
      have lpx := hI.ps.lp.same hsm
      have hmG : MapG rdB wx mG os.length os (gD os D k0) := by
        have := hI.mp.same (hsm mG hI.mT)
        rw [List.take_of_length_le (by omega)] at this
        exact this
      have hCx : wx.heap[C]? = _ := (hsm C (by simp)).trans hI.c
      have hE : Hid (∃ TT TL ns nk, E1 W wx (mG :: C :: T) t mB G' os D gm 0 (.slice none 0 0) TT TL M ns nk wx) := Lib.hid ⟨mG :: C :: T, [], ns', os, hts', hI.ps.wt, fun b hb => hb, by simp, by simpa using RW.nil _ _, by rw [show gK gm os D 0 = gm by funext y; unfold gK; simp]; exact lpx.mp, fun b _ _ => rfl, Nat.le_refl _, lpx.mt, lpx.mp.lt⟩
      have FX := Lib.hid (show ∀ wy : World, (∀ b, b < wx.heap.size → b ≠ mB → wy.heap[b]? = wx.heap[b]?) → LR inU wy A os ∧ MapG rdB wy mG os.length os (gD os D k0) ∧ wy.heap[BO]? = some (Obj.cells #[.slice A k0 cp] 27) from fun wy hb => by
        refine ⟨?_, hmG.same (hb mG hmG.lt hI.ne), (hb BO (Array.getElem?_eq_some_iff.1 lpx.bx).1 fun e => ?_).trans lpx.bx⟩
        · have h1 : RW (· ∈ mG :: C :: T) 28 inU wy (.slice A k0 cp) os := lpx.rw.keep fun b cur hb' hc => ⟨hb', hb b (Array.getElem?_eq_some_iff.1 hc).1 fun e => by rw [e] at hc; exact lpx.mp.not_row hc⟩
          obtain ⟨A', c', ev, _, _, hlr⟩ := h1.form
          injection ev with ev1
          subst ev1; exact hlr
        · have := lpx.bx
          rw [e] at this; exact lpx.mp.not_row this)
      have HX := Lib.hid (And.intro hM1 (And.intro hTr' (And.intro hrow (And.intro hob (And.intro hsm hI.ps.lm)))))
      obtain ⟨Ag, lg, cg, rfl, elg⟩ : ∃ Ag lg cg, vg = .slice Ag lg cg ∧ L.length = lg := by obtain ⟨A', c', h, _⟩ := hrow.form; exact ⟨A', _, c', h, rfl⟩
      have HLG := Lib.hid elg
      have HLn := Lib.hid (show L ≠ [] → ∃ o, G n1 = some o from fun hne => by
        cases hG : G n1 with
        | some o => exact ⟨o, rfl⟩
        | none => exact absurd (by rw [← eL]; unfold rm; rw [hG]) hne)
      have HLX := Lib.hid (And.intro hmG lpx)
      have y3 := (FX.out wx (fun _ _ _ => rfl)).2.2
      have y3 : wx.cell? ⟨BO, 0, none⟩ = some (.slice A k0 cp) := by rw [cell_of_row _ _ 0 _ _ (0, 0) y3]; rfl
      clear hM1 hTr' hts' hrow hob hsm hI lpx hmG hCx HI elg eG' eL el
      go_wp2_with fail
      clear y3
      go_loopg [17, 18, 154] k0 (fun gh v17 v18 v154 wr => ∃ i : Nat, i ≤ k0 ∧ gh = k0 - i ∧ v154 = .int .i64 i ∧ v17 = .int .i64 (((os.take i).filter D).length : Nat) ∧ (∃ A2 l2 c2, v18 = .slice A2 l2 c2) ∧ Hid (∃ TT TL ns nk, E1 W wx (mG :: C :: T) t mB G' os D gm i v18 TT TL M ns nk wr))
      case atStart => exact ⟨0, by omega, by omega, rfl, rfl, ⟨_, _, _, rfl⟩, hE⟩
      case round =>
        clear hE
        obtain ⟨i, hi, hgi, rfl, rfl, ⟨A2, l2, c2, rfl⟩, hE⟩ := hrel
        by_cases hlt : i < k0
        · have l1 : (i : Int) < k0 := by omega
          obtain ⟨TT, TL, ns, nk, hE⟩ := hE.out
          obtain ⟨x, hx⟩ : ∃ x, os[i]? = some x := ⟨_, List.getElem?_eq_getElem (by rw [HH.out.2.2.2]; exact hlt)⟩
          obtain ⟨hlr, hmG, _⟩ := FX.out wr hE.bs
          obtain ⟨xb, xo, rfl, xl, q1⟩ := hlr i x hx
          unfold inU at q1
          have htr := HH.out.2.1
          have hxo : x ∈ os := List.mem_of_getElem? hx
          have hx15 := (htr.nz x hxo).2
          have hux : U64 x := u64_of (by omega)
          have q3 := hmG.at_ Try.underlying94 rd_B (zeroB wr) hux
          rw [show gD os D k0 x = some (D x) by unfold gD; rw [List.take_of_length_le (by have := HH.out.2.2.2; omega), if_pos hxo]] at q3
          dsimp only [vB, Option.getD_some] at q3
          obtain ⟨cn, ecn⟩ : ∃ cn, ((os.take i).filter D).length = cn := ⟨_, rfl⟩
          rw [ecn]
          have hcn : cn ≤ 1000 := by rw [← ecn]; exact Nat.le_trans (List.length_filter_le _ _) (Nat.le_trans (List.length_take_le' _ _) (by have := htr.len; omega))
          have i1 : IntKind.i64.wrap ((i : Int) + 1) = ((i + 1 : Nat) : Int) := by rw [IntKind.wrap_i64]; have := HN.out; omega
          have i2 : IntKind.i64.wrap ((cn : Int) + 1) = ((cn + 1 : Nat) : Int) := by rw [IntKind.wrap_i64]; omega
          have ecn2 := cnt_succ (D := D) hx
          rw [ecn] at ecn2
          have ho1 : os.length ≤ 1000 := by have := htr.len; omega
          have HC := Lib.hid ecn2
          obtain ⟨bd, ebd⟩ : ∃ bd, D x = bd := ⟨_, rfl⟩
          rw [ebd] at q3
          cases bd
          · obtain ⟨A3, l3, c3, w', r1, TT', TL', hE'⟩ := hE.app hx ebd ho1 27
            have HE' := Lib.hid hE'
            have HD := Lib.hid ebd
            clear hE hE' hlr hx htr hxo hx15 hux hmG ecn ecn2 ho1 ebd i2
            go_wp2_with (at_builtin; refine wpList_append_by rfl (.tmp 165) (.tmp 167) _ _ rfl _ _ _ rfl rfl w' r1 ?_)
            go_wp2_with fail
            go_roundg (k0 - (i + 1))
            case rel => exact ⟨i + 1, by omega, rfl, by first | rfl | rw [i1], by rw [HC.out, HD.out]; simp, ⟨_, _, _, rfl⟩, Lib.hid ⟨_, _, _, _, HE'.out⟩⟩
            case measure => omega
          · obtain ⟨w', r1, nk', hE'⟩ := hE.del hx ebd hux 0
            have HE' := Lib.hid hE'
            have HD := Lib.hid ebd
            clear hE hE' hlr hx htr hxo hx15 hux hmG ecn ecn2 ho1 ebd
            go_wp2_with fail
            go_roundg (k0 - (i + 1))
            case rel => exact ⟨i + 1, by omega, rfl, by first | rfl | rw [i1], by rw [HC.out, HD.out]; first | rfl | simp [i2], ⟨_, _, _, rfl⟩, Lib.hid ⟨_, _, _, _, HE'.out⟩⟩
            case measure => omega
        · obtain rfl : i = k0 := by omega
          obtain ⟨TT, TL, ns, nk, hE⟩ := hE.out
          obtain ⟨hM1, hTr', hrow, hob, hsm, hlm⟩ := HX.out
          obtain ⟨hlr, hmG, hBO⟩ := FX.out wr hE.bs
          have hPS := hE.done (BO := BO) (by have := HH.out.2.2.2; omega) HH.out.2.1 HH.out.2.2.1 hM1 hTr' hlm hBO (by simp [HH.out.1.lp.bt])
          have hcl := len_D (k := i) HH.out.2.1 HH.out.2.2.1 hM1 (by have := HH.out.2.2.2; omega)
          have c9 : wr.cell? ⟨BO, 0, none⟩ = some (.slice A i cp) := by rw [cell_of_row _ _ 0 _ _ (0, 0) hBO]; rfl
          have f9 : wr.frozen? ⟨BO, 0, none⟩ = false := frozen_of_row _ _ _ _ _ hBO
          obtain ⟨wy, ewy⟩ : ∃ wy, wr.setCell ⟨BO, 0, none⟩ (.slice A2 l2 c2) = wy := ⟨_, rfl⟩
          -- how what is read now lies
          have RY := Lib.hid (show ∀ b cur u, wx.heap[b]? = some (Obj.cells cur u) → u ≠ 27 → wy.heap[b]? = wx.heap[b]? from fun b cur u hb hu => by
            rw [← ewy]
            refine (heap_setCell_other _ _ _ _ fun e => ?_).trans (hE.bs b (Array.getElem?_eq_some_iff.1 hb).1 fun e => ?_)
            · have e2 : b = BO := e
              rw [e2] at hb
              have h3 := HLX.out.2.bx
              rw [hb] at h3
              injection h3 with h3
              injection h3 with _ h3
              exact hu h3
            · rw [e] at hb; exact HLX.out.2.mp.not_row hb)
          have hmy : wy.heap[mG]? = wr.heap[mG]? := by
            rw [← ewy]
            refine heap_setCell_other _ _ _ _ fun e => ?_
            have e2 : mG = BO := e
            rw [e2] at hmG
            exact hmG.not_row hBO
          have hmGy := hmG.same hmy
          rw [ewy] at hPS
          rw [hcl]
          have hsub : ∀ b ∈ T, b ∈ TT := fun b hb => hE.tt b (by simp [hb])
          have HP := Lib.hid (And.intro hPS hsub)
          have HW := Lib.hid (And.intro hmGy ewy)
          have mkB := mk_mapB
          clear hE hM1 hTr' hrow hob hsm hlm hlr hmG hBO hPS hcl hmy hmGy hsub hi hgi hlt
          go_upto_region 33 with fail
          try rw [ewy]
          clear c9 f9 ewy
          have hS0 := MapG.new (R := rdB) (β := Bool) wy
          have hb0 := below_alloc1 wy (.map #[] 0)
          obtain ⟨wz, ewz⟩ : ∃ wz, wy.alloc (.map #[] 0) = wz := ⟨_, rfl⟩
          obtain ⟨mS, emS⟩ : ∃ mS, wy.heap.size = mS := ⟨_, rfl⟩
          rw [ewz, emS] at hS0
          rw [ewz] at hb0
          have HS0 : Hid (MapG rdB wz mS (L.take 0).length (L.take 0) (gS L 0) ∧ Below wy.heap.size wy wz) := Lib.hid ⟨by rw [show gS L 0 = fun _ => none by funext y; unfold gS; simp]; simpa using hS0, hb0⟩
          have HMS := Lib.hid emS
          clear hS0 hb0
          go_upto_region 34 with fail
          try rw [ewz]
          try rw [emS]
          clear ewz emS mkB
          go_wp2_with fail
          go_loopg [176] lg (fun gh v176 wr => ∃ j : Nat, j ≤ lg ∧ gh = lg - j ∧ v176 = .int .i64 j ∧ Hid (MapG rdB wr mS (L.take j).length (L.take j) (gS L j) ∧ Below wy.heap.size wy wr))
          case atStart => exact ⟨0, by omega, by omega, rfl, HS0⟩
          case round =>
            clear HS0
            obtain ⟨j, hj, hgj, rfl, hI⟩ := hrel
            by_cases hlt : j < lg
            · have l1 : (j : Int) < lg := by omega
              obtain ⟨x, hx⟩ : ∃ x, L[j]? = some x := ⟨_, List.getElem?_eq_getElem (by rw [HLG.out]; exact hlt)⟩
              obtain ⟨hM1, hTr', hrow, hob, hsm, hlm⟩ := HX.out
              obtain ⟨hmS, hbz⟩ := hI.out
              have htr := HH.out.2.1
              have hxL : x ∈ L := List.mem_of_getElem? hx
              have hDx := (hM1.mem x).1 hxL
              obtain ⟨o, ho, hhm⟩ := hM1.he j x hx
              have hxo : x ∈ os := (htr.mem x).2 (by rw [ho]; rfl)
              have hx15 := (htr.nz x hxo).2
              have ho15 := (htr.hm x o ho).1
              obtain ⟨on0, hon⟩ := HLn.out (fun e => by rw [e] at hxL; cases hxL)
              obtain ⟨o', ho'⟩ := Option.isSome_iff_exists.1 (show (rmH G n1 on0 x).isSome = true by rw [(rmH_hm G n1 on0 x).2, ho]; rfl)
              obtain ⟨o0, k1, k2, _, k4, _⟩ := rmH_get ho'
              rw [ho] at k1
              injection k1 with k1
              subst k1
              have hOB := hob x on0 hon o' ho'
              have hRY := RY.out
              have tr : ∀ b cur u, wx.heap[b]? = some (Obj.cells cur u) → u ≠ 27 → wr.heap[b]? = some (Obj.cells cur u) := fun b cur u hb hu => by
                have h1 := (hRY b cur u hb hu).trans hb
                exact (hbz.block b (Array.getElem?_eq_some_iff.1 h1).1).trans h1
              obtain ⟨gb, go, rfl, q1⟩ : ∃ gb go, Ag = some ⟨gb, go, none⟩ ∧ wr.cell? ⟨gb, go + j, none⟩ = some (.pointer (some ⟨o.b, 0, none⟩)) := by
                rcases hrow with ⟨e, _⟩ | ⟨g, of, cap, cur, ev, _, hc, _, _, _, hcur⟩
                · rw [e] at hxL; cases hxL
                · injection ev with ev1
                  refine ⟨g, of, ev1, ?_⟩
                  rw [cell_of_row _ _ _ _ _ (0, 0) (tr g cur _ hc (by decide)), ]
                  have := hcur j x hx
                  unfold encB blkO at this
                  rw [ho] at this
                  exact this
              obtain ⟨_, _, ⟨cs, hcs, _, hc2, _, hc6, _⟩, _⟩ := hOB
              have hcr := tr _ _ _ hcs (by decide)
              rw [k4] at hcr
              rw [k2] at hc6
              have q2 : wr.cell? ⟨o.b, 2, none⟩ = some (.int .u64 (x : Int)) := by rw [cell_of_row _ _ _ _ _ (0, 0) hcr]; exact hc2
              have q3 : wr.cell? ⟨o.b, 6, none⟩ = some (.int .u64 (o.hm : Int)) := by rw [cell_of_row _ _ _ _ _ (0, 0) hcr]; exact hc6
              have hmG := HW.out.1.same (hbz.block mG HW.out.1.lt)
              have q4 := hmG.at_ Try.underlying94 rd_B (zeroB wr) (j := x) (u64_of (by omega))
              rw [show gD os D i x = some (D x) by unfold gD; rw [List.take_of_length_le (by have := HH.out.2.2.2; omega), if_pos hxo], hDx] at q4
              have q5 := hmS.at_ Try.underlying94 rd_B (zeroB wr) (j := x) (u64_of (by omega))
              rw [show gS L j x = none by unfold gS; rw [if_neg (not_take hM1.nd hx)]] at q5
              have q6 := hmS.at_ Try.underlying94 rd_B (zeroB wr) (j := o.hm) (u64_of (by omega))
              obtain ⟨w', r1, hm', ht'⟩ := hmS.store Try.underlying94 rd_B (Nat.lt_of_le_of_lt (Nat.le_trans (List.length_take_le' _ _) (Nat.le_trans (nodup_len' _ _ hM1.nd fun y hy => by
                have hd := (hM1.mem y).1 hy
                by_cases hyo : y ∈ os
                · exact hyo
                · rw [HH.out.2.2.1.out htr hyo] at hd; cases hd) htr.len)) (by decide)) (u64_of (n := x) (by omega)) true
              rw [if_neg (not_take hM1.nd hx), gS_succ hx] at hm'
              have et : L.take j ++ [x] = L.take (j + 1) := by rw [List.take_add_one, hx]; rfl
              rw [et] at hm'
              have HI' : Hid (MapG rdB w' mS (L.take (j + 1)).length (L.take (j + 1)) (gS L (j + 1)) ∧ Below wy.heap.size wy w') := Lib.hid ⟨hm'.tight, hbz.trans (ht'.below hbz.size fun b hb => by rw [List.mem_singleton.1 hb, HMS.out]; exact Nat.le_refl _)⟩
              have i1 : IntKind.i64.wrap ((j : Int) + 1) = ((j + 1 : Nat) : Int) := by
                rw [IntKind.wrap_i64]
                have := nodup_len' _ _ hM1.nd (fun y hy => by
                  have hd := (hM1.mem y).1 hy
                  by_cases hyo : y ∈ os
                  · exact hyo
                  · rw [HH.out.2.2.1.out htr hyo] at hd; cases hd)
                have := htr.len
                have := HLG.out
                omega
              dsimp only [vB, Option.getD_some, Option.getD_none] at q4 q5 q6 r1
              have hh6 : 0 < j → gS L j o.hm = some true := fun h0 => by unfold gS; rw [if_pos (hhm h0)]
              obtain ⟨ob, eob⟩ : ∃ ob, o.b = ob := ⟨_, rfl⟩
              obtain ⟨oh, eoh⟩ : ∃ oh, o.hm = oh := ⟨_, rfl⟩
              rw [eob] at q1 q2 q3
              rw [eoh] at q3 q6 hh6
              by_cases h0 : 0 < j
              · rw [hh6 h0] at q6
                dsimp only [Option.getD_some] at q6
                have l0 : (0 : Int) < j := by omega
                clear hM1 hTr' hrow hob hsm hlm hmS hbz htr hxL hDx ho hhm hxo hx15 ho15 hon ho' hRY tr hcs hc2 hc6 hcr hmG hm' ht' et hx k2 k4 hI hh6 eob eoh h0
                go_wp2_with fail
                go_roundg (lg - (j + 1))
                case rel => exact ⟨j + 1, by omega, rfl, by first | rfl | rw [i1], HI'⟩
                case measure => omega
              · have l0 : ¬ (0 : Int) < j := by omega
                clear hM1 hTr' hrow hob hsm hlm hmS hbz htr hxL hDx ho hhm hxo hx15 ho15 hon ho' hRY tr hcs hc2 hc6 hcr hmG hm' ht' et hx k2 k4 hI hh6 eob eoh h0 q6
                go_wp2_with fail
                go_roundg (lg - (j + 1))
                case rel => exact ⟨j + 1, by omega, rfl, by first | rfl | rw [i1], HI'⟩
                case measure => omega
            · obtain rfl : j = lg := by omega
              have HE := Lib.hid (HP.out.1.below (by have := hI.out.2; exact this))
              have el : L.length = j := HLG.out
              clear hI
              rw [el]
              go_wp2_with fail
              go_ret
              exact ⟨by simp, TT, _, _, _, _, HP.out.2, HE.out⟩
end Go.Proofs.Ytodionedjokdmaa
