/- play: an object comes. -/
import Derived.Test.YtodionedjokdmaaIj
import Derived.Test.YtodionedjokdmaaVt
import Derived.Test.YtodionedjokdmaaLb
set_option linter.unusedVariables false
set_option linter.unusedSimpArgs false
namespace Go.Proofs.Ytodionedjokdmaa
open Go.RowKit Go.Maps
set_option linter.unusedVariables false
set_option linter.unusedSimpArgs false
theorem int_beq (a b : Nat) : ((a : Int) == (b : Int)) = (a == b) := by
  by_cases e : a = b
  · subst e; simp
  · rw [beq_eq_false_iff_ne.2 e, beq_eq_false_iff_ne.2 (by omega)]
theorem may_law {W w : World} {T : List Nat} {t mB BO : Nat} {os : List Nat} {G : GM} {gm : Nat → Option CV} {v : Value} (h : PZ W T t mB BO os G gm v w) (n1 h1 : Nat) (p : Int) (ck cn chh cw co : Int) (ok : Bool) (cN : CV) (ech : (gm h1).getD c0 = ⟨ck, cn, chh, cw, co⟩) (eok : (gm h1).isSome = ok) (ecN : (gm n1).getD c0 = cN) :
    ∃ (q0 qE q1 qh : Bool), ((n1 : Int) != 0) = q0 ∧ (∀ W : World, (binOp .eql 30 (vC cN) (vC c0)).run Try.prog W = .ok (.bool qE) W) ∧ (cw == 1) = q1 ∧ ((n1 : Int) == 1) = qh ∧ Hid (may G n1 ⟨0, p, h1, [], none, 0⟩ = (q0 && (qE && ((ok && q1) || (qh && ((h1 : Int) == 0) && !ok))))) := by
  obtain ⟨r, htr⟩ := h.tr
  have e0 : ((n1 : Int) != 0) = (n1 != 0) := by
    show (!((n1 : Int) == ((0 : Nat) : Int))) = !(n1 == 0)
    rw [int_beq]
  have e1 : ((n1 : Int) == 1) = (n1 == 1) := int_beq n1 1
  have e2 : ((h1 : Int) == 0) = (h1 == 0) := int_beq h1 0
  have hE : ∀ W : World, (binOp .eql 30 (vC cN) (vC c0)).run Try.prog W = .ok (.bool (!(G n1).isSome)) W := fun X => by
    cases hG : G n1 with
    | none =>
      rw [h.lm.none hG] at ecN
      rw [← ecN]; exact eqC0 X
    | some o =>
      obtain ⟨c, hc, k1, _⟩ := h.lm.some hG
      rw [hc] at ecN
      simp at ecN
      subst ecN
      obtain ⟨a1, a2, a3, a4, a5⟩ := c
      simp at k1
      subst k1
      exact eqC1 _ _ _ _ X
  refine ⟨_, _, _, _, rfl, hE, rfl, rfl, Lib.hid ?_⟩
  rw [e0, e1, e2]
  unfold may
  dsimp only
  congr 2
  cases hG : G h1 with
  | none =>
    have := h.lm.none hG
    rw [this] at eok
    have ec : ctr G h1 = none := by unfold ctr; rw [hG]; rfl
    subst eok
    rw [ec]
    simp
  | some o =>
    obtain ⟨c, hc, _, _, k3⟩ := h.lm.some hG
    rw [hc] at ech eok
    simp at ech
    subst ech
    simp at k3 eok
    have hne : h1 ≠ 0 := (htr.nz h1 ((htr.mem h1).2 (by rw [hG]; rfl))).1
    have ec : (ctr G h1).isSome = (o.kd == 1) := by
      unfold ctr
      rw [hG]
      by_cases e : o.kd = 1 <;> simp [Option.filter, e]
    subst eok
    rw [ec, k3]
    simp [hne]
/-- A thread is made. -/
theorem ob_thread2 {own : Nat → Prop} {wr : World} {nm hm cc : Nat} (h1 : U64 nm) (h0 : U64 hm) (h2 : own wr.heap.size) (h3 : own (wr.heap.size + 1)) :
    OB own ((wr.alloc (Obj.cells ((ocs Try.zeroCells60 (.int .u64 (nm : Int)) (.int .i64 3) (.int .u64 (hm : Int))).setIfInBounds 19 (.pointer (some ⟨wr.heap.size + 1, 0, none⟩))) 60)).alloc (Obj.cells #[.int .u64 0, .int .u64 0, .int .u64 0, .int .u64 0, .int .u64 0, .int .u64 0, .int .u64 0, .int .u64 0, .int .u64 0, .int .u64 0, .int .u64 0, .int .u64 0, .int .u64 0, .int .u64 0, .int .u64 0, .int .u64 0, .int .u64 0, .int .i64 0, .slice none 0 0, .int .u64 0, .int .i64 0, .int .i64 (cc : Int), .int .i64 0, .int .i64 0, .int .i64 0, .int .i64 0, .int .u64 0, .int .i64 0, .int .u64 0, .int .u64 0, .int .u64 0, .int .u64 0, .int .u64 0, .int .u64 0, .int .u64 0, .int .i64 0, .int .i64 0, .slice none 0 0, .int .i64 0, .slice none 0 0, .slice none 0 0, .int .i64 0, .slice none 0 0] 74)) nm ⟨wr.heap.size, 3, hm, [], some (wr.heap.size + 1), (cc : Int)⟩ := by
  have hs := ocs_size (.int .u64 (nm : Int)) (.int .i64 3) (.int .u64 (hm : Int))
  obtain ⟨k1, k2, k3, k4, k5⟩ := ocs_at (.int .u64 (nm : Int)) (.int .i64 3) (.int .u64 (hm : Int))
  obtain ⟨C, eC⟩ : ∃ C, ocs Try.zeroCells60 (.int .u64 (nm : Int)) (.int .i64 3) (.int .u64 (hm : Int)) = C := ⟨_, rfl⟩
  rw [eC] at hs k1 k2 k3 k4 k5 ⊢
  refine ⟨h2, ⟨h1, h0, by simp⟩, ⟨_, (Below.heap_alloc _ _ _ (by simp)).trans (heap_alloc_new wr _), by simp only [Array.size_setIfInBounds]; exact hs, ?_, ?_, ?_, ?_, .slice none 0 0, ?_, RW.nil _ _⟩, fun b hb => ?_⟩
  · rw [Array.getElem?_setIfInBounds_ne (by decide)]; exact k1
  · rw [Array.getElem?_setIfInBounds_ne (by decide)]; exact k2
  · rw [Array.getElem?_setIfInBounds_ne (by decide)]; exact k3
  · rw [set_self _ (by omega)]; rfl
  · rw [Array.getElem?_setIfInBounds_ne (by decide)]; exact k4
  · injection hb with hb
    rw [← hb]
    have := heap_alloc_new (wr.alloc (Obj.cells (C.setIfInBounds 19 (.pointer (some ⟨wr.heap.size + 1, 0, none⟩))) 60)) (Obj.cells #[.int .u64 0, .int .u64 0, .int .u64 0, .int .u64 0, .int .u64 0, .int .u64 0, .int .u64 0, .int .u64 0, .int .u64 0, .int .u64 0, .int .u64 0, .int .u64 0, .int .u64 0, .int .u64 0, .int .u64 0, .int .u64 0, .int .u64 0, .int .i64 0, .slice none 0 0, .int .u64 0, .int .i64 0, .int .i64 (cc : Int), .int .i64 0, .int .i64 0, .int .i64 0, .int .i64 0, .int .u64 0, .int .i64 0, .int .u64 0, .int .u64 0, .int .u64 0, .int .u64 0, .int .u64 0, .int .u64 0, .int .u64 0, .int .i64 0, .int .i64 0, .slice none 0 0, .int .i64 0, .slice none 0 0, .slice none 0 0, .int .i64 0, .slice none 0 0] 74)
    rw [World.size_alloc] at this
    exact ⟨h3, _, this, rfl⟩
theorem mod6 (x : Int) : ∃ (a u b p : Int), x.tmod 6 = a ∧ RowKit.wrap64 (a + 6) = u ∧ u.tmod 6 = b ∧ RowKit.wrap64 (b + 1) = p ∧ 1 ≤ p ∧ p ≤ 6 := by
  have h1 := Int.tmod_lt_of_pos x (show (0 : Int) < 6 by omega)
  have h2 := Int.lt_tmod_of_pos x (show (0 : Int) < 6 by omega)
  have e : RowKit.wrap64 (x.tmod 6 + 6) = x.tmod 6 + 6 := by unfold RowKit.wrap64; omega
  have e3 : (x.tmod 6 + 6).tmod 6 = (x.tmod 6 + 6) % 6 := Int.tmod_eq_emod_of_nonneg (by omega)
  have e4 : RowKit.wrap64 ((x.tmod 6 + 6) % 6 + 1) = (x.tmod 6 + 6) % 6 + 1 := by unfold RowKit.wrap64; omega
  exact ⟨_, _, _, _, rfl, e, e3, e4, by omega, by omega⟩
set_option maxHeartbeats 4000000 in
set_option maxRecDepth 100000 in
theorem play_add {W w : World} {T : List Nat} {t mB BO : Nat} {os : List Nat} {G : GM} {gm : Nat → Option CV} {v : Value} (h : PZ W T t mB BO os G gm v w) (k wh on : Int) (n hm : Nat) (hk : 0 < bits .and .i64 k 3) :
    Calls Try.prog 10 #[.pointer (some ⟨t, 0, none⟩), .map (some mB), .pointer (some ⟨BO, 0, none⟩), .agg #[.int .i64 k, .int .u64 (n : Int), .int .u64 (hm : Int), .int .i64 wh, .int .i64 on]] w fun e w' => e = .returned (.bool true) ∧
      ∃ T' os' G' gm' v', (∀ b ∈ T, b ∈ T') ∧ PZ W T' t mB BO os' G' gm' v' w' := by
  obtain ⟨n1, en, hn1⟩ := u15 n
  obtain ⟨h1, eh, hh1⟩ := u15 hm
  obtain ⟨a, u, b, p, f1, f2, f3, f4, hp1, hp6⟩ := mod6 wh
  have HH := Lib.hid h
  have HN := Lib.hid (show n1 < 16 ∧ h1 < 16 ∧ 1 ≤ p ∧ p ≤ 6 from ⟨hn1, hh1, hp1, hp6⟩)
  clear h hn1 hh1 hp1 hp6
  go_enter Try.func10, Try.ntmps10
  go_upto_region 3 with fail
  have h1' := HH.out.alloc (Obj.cells #[.int .i64 k, .int .u64 (n1 : Int), .int .u64 (h1 : Int), .int .i64 p, .int .i64 on] 30)
  have hC1 := heap_alloc_new w (Obj.cells #[.int .i64 k, .int .u64 (n1 : Int), .int .u64 (h1 : Int), .int .i64 p, .int .i64 on] 30)
  obtain ⟨C, eC⟩ : ∃ C, w.heap.size = C := ⟨_, rfl⟩
  obtain ⟨w1, e1⟩ : ∃ w1, w.alloc (Obj.cells #[.int .i64 k, .int .u64 (n1 : Int), .int .u64 (h1 : Int), .int .i64 p, .int .i64 on] 30) = w1 := ⟨_, rfl⟩
  rw [e1, eC] at h1' hC1
  rw [e1, eC]
  have d1 : w1.cell? ⟨C, 1, none⟩ = some (.int .u64 (n1 : Int)) := by rw [cell_of_row _ _ _ _ _ (0, 0) hC1]; rfl
  have d2 : w1.cell? ⟨C, 2, none⟩ = some (.int .u64 (h1 : Int)) := by rw [cell_of_row _ _ _ _ _ (0, 0) hC1]; rfl
  have d3 : w1.cell? ⟨C, 3, none⟩ = some (.int .i64 p) := by rw [cell_of_row _ _ _ _ _ (0, 0) hC1]; rfl
  have lk := h1'.lp.mp.at_ok Try.underlying26 rd_C (zeroC w1) (j := h1) (u64_of (by have := HN.out; omega))
  obtain ⟨ch, ech⟩ : ∃ ch, (gm h1).getD c0 = ch := ⟨_, rfl⟩
  obtain ⟨ok, eok⟩ : ∃ ok, (gm h1).isSome = ok := ⟨_, rfl⟩
  rw [ech, eok] at lk
  have ECH := Lib.hid (And.intro ech eok)
  obtain ⟨ck, cn, chh, cw, co⟩ := ch
  dsimp only [vC] at lk
  have HS1 := Lib.hid (show Same T w w1 from fun b hb => by rw [← e1]; exact (below_alloc1 w _).block b (HH.out.tl b hb))
  have H1 := Lib.hid (And.intro h1' (And.intro hC1 eC))
  clear h1' hC1 ech eok e1 eC f1 f2 f3 f4 en eh hk
  go_upto_region 4 with fail
  have h2' := H1.out.1.alloc (Obj.cells #[.int .i64 ck, .int .u64 cn, .int .u64 chh, .int .i64 cw, .int .i64 co] 30)
  have hC2 := heap_alloc_new w1 (Obj.cells #[.int .i64 ck, .int .u64 cn, .int .u64 chh, .int .i64 cw, .int .i64 co] 30)
  have hC1 := (below_alloc1 w1 (Obj.cells #[.int .i64 ck, .int .u64 cn, .int .u64 chh, .int .i64 cw, .int .i64 co] 30)).block C (Array.getElem?_eq_some_iff.1 H1.out.2.1).1
  obtain ⟨K, eK⟩ : ∃ K, w1.heap.size = K := ⟨_, rfl⟩
  obtain ⟨w2, e2⟩ : ∃ w2, w1.alloc (Obj.cells #[.int .i64 ck, .int .u64 cn, .int .u64 chh, .int .i64 cw, .int .i64 co] 30) = w2 := ⟨_, rfl⟩
  rw [e2, eK] at h2' hC2
  rw [e2] at hC1
  rw [e2, eK]
  replace hC1 := hC1.trans H1.out.2.1
  clear d1 d2 d3 lk
  have d1 : w2.cell? ⟨C, 1, none⟩ = some (.int .u64 (n1 : Int)) := by rw [cell_of_row _ _ _ _ _ (0, 0) hC1]; rfl
  have d2 : w2.cell? ⟨C, 2, none⟩ = some (.int .u64 (h1 : Int)) := by rw [cell_of_row _ _ _ _ _ (0, 0) hC1]; rfl
  have d3 : w2.cell? ⟨C, 3, none⟩ = some (.int .i64 p) := by rw [cell_of_row _ _ _ _ _ (0, 0) hC1]; rfl
  have d5 : w2.cell? ⟨C, 4, none⟩ = some (.int .i64 on) := by rw [cell_of_row _ _ _ _ _ (0, 0) hC1]; rfl
  have d4 : w2.cell? ⟨K, 3, none⟩ = some (.int .i64 cw) := by rw [cell_of_row _ _ _ _ _ (0, 0) hC2]; rfl
  have lk := h2'.look (x := n1) (u64_of (by have := HN.out; omega))
  have HB2 := Lib.hid (show Same T w w2 from HS1.out.trans fun b hb => by rw [← e2]; exact (below_alloc1 w1 _).block b (H1.out.1.tl b (List.mem_cons_of_mem _ hb)))
  have H2 := Lib.hid (And.intro h2' (And.intro hC1 (H1.out.2.2)))
  clear h2' hC2 hC1 e2 eK H1
  -- what the answer is
  obtain ⟨cN, ecN⟩ : ∃ cN, (gm n1).getD c0 = cN := ⟨_, rfl⟩
  rw [ecN] at lk
  have key : ∃ (q0 qE q1 qh : Bool), ((n1 : Int) != 0) = q0 ∧ (∀ W : World, (binOp .eql 30 (vC cN) (vC c0)).run Try.prog W = .ok (.bool qE) W) ∧ (cw == 1) = q1 ∧ ((n1 : Int) == 1) = qh ∧ Hid (may G n1 ⟨0, p, h1, [], none, 0⟩ = (q0 && (qE && ((ok && q1) || (qh && ((h1 : Int) == 0) && !ok))))) := may_law HH.out n1 h1 p ck cn chh cw co ok cN ECH.out.1 ECH.out.2 ecN
  obtain ⟨q0, qE, q1, qh, k0, kE, k1, kh, HM⟩ := key
  obtain ⟨kN, nN, hN, wN, oN⟩ := cN
  dsimp only [vC, c0] at lk kE
  clear ecN
  obtain ⟨qz, kz⟩ : ∃ qz, ((h1 : Int) == 0) = qz := ⟨_, rfl⟩
  rw [kz] at HM
  obtain ⟨bm, ebm⟩ : ∃ bm, (q0 && (qE && ((ok && q1) || (qh && qz && !ok)))) = bm := ⟨_, rfl⟩
  rw [ebm] at HM
  have EB := Lib.hid ebm
  clear ebm
  go_cut [11] (fun s11 wx => s11 = .bool bm ∧ wx = w2)
  case first =>
    cases q0
    · go_wp2_with fail
      go_meet
      obtain rfl := EB.out
      exact ⟨rfl, rfl⟩
    · cases qE
      · go_wp2_with fail
        go_meet
        obtain rfl := EB.out
        exact ⟨rfl, rfl⟩
      · cases ok
        · cases qh
          · go_wp2_with fail
            go_meet
            obtain rfl := EB.out
            exact ⟨rfl, rfl⟩
          · cases qz
            all_goals (go_wp2_with fail; go_meet; obtain rfl := EB.out; exact ⟨rfl, rfl⟩)
        · cases q1
          · cases qh
            · go_wp2_with fail
              go_meet
              obtain rfl := EB.out
              exact ⟨rfl, rfl⟩
            · cases qz
              all_goals (go_wp2_with fail; go_meet; obtain rfl := EB.out; exact ⟨rfl, rfl⟩)
          · go_wp2_with fail
            go_meet
            obtain rfl := EB.out
            exact ⟨rfl, rfl⟩
  case rest =>
    obtain ⟨rfl, ew⟩ := hcut
    rw [ew]
    clear ew k0 kE k1 kh kz lk d4
    obtain ⟨h2, hC2, eC⟩ := H2.out
    obtain ⟨M, hts⟩ := h2.ts
    obtain ⟨r, htr⟩ := h2.tr
    have hT2 : ∀ b ∈ T, b ∈ K :: C :: T := fun b hb => by simp [hb]
    have kl : ∀ x o, G x = some o → o.ks.length ≤ 1000 := fun x o hx => by have := htr.kl x o hx; omega
    have ol : os.length ≤ 1000000 := by have := htr.len; omega
    have EC := Lib.hid eC
    by_cases hp3 : p = 3
    · have q3 : (p == 3) = true := by simp [hp3]
      obtain ⟨on2, eon, _⟩ := and3 on
      have hbO := ((Below.refl w2.heap.size w2).alloc (Nat.le_refl _) (Obj.cells ((ocs Try.zeroCells60 (.int .u64 (n1 : Int)) (.int .i64 3) (.int .u64 (h1 : Int))).setIfInBounds 19 (.pointer (some ⟨w2.heap.size + 1, 0, none⟩))) 60)).alloc (by simp) (Obj.cells #[.int .u64 0, .int .u64 0, .int .u64 0, .int .u64 0, .int .u64 0, .int .u64 0, .int .u64 0, .int .u64 0, .int .u64 0, .int .u64 0, .int .u64 0, .int .u64 0, .int .u64 0, .int .u64 0, .int .u64 0, .int .u64 0, .int .u64 0, .int .i64 0, .slice none 0 0, .int .u64 0, .int .i64 0, .int .i64 (on2 : Int), .int .i64 0, .int .i64 0, .int .i64 0, .int .i64 0, .int .u64 0, .int .i64 0, .int .u64 0, .int .u64 0, .int .u64 0, .int .u64 0, .int .u64 0, .int .u64 0, .int .u64 0, .int .i64 0, .int .i64 0, .slice none 0 0, .int .i64 0, .slice none 0 0, .slice none 0 0, .int .i64 0, .slice none 0 0] 74)
      have ho := ob_thread2 (own := own_ W (K :: C :: T)) (wr := w2) (nm := n1) (hm := h1) (cc := on2) (u64_of (by have := HN.out; omega)) (u64_of (by have := HN.out; omega)) (own_new hts (Nat.le_refl _)) (own_new hts (by omega))
      have hCo := (hbO.block C (Array.getElem?_eq_some_iff.1 hC2).1).trans hC2
      obtain ⟨O1, eO⟩ : ∃ O1, (⟨w2.heap.size, 3, h1, [], some (w2.heap.size + 1), (on2 : Int)⟩ : Ob) = O1 := ⟨_, rfl⟩
      have HMb : may G n1 O1 = bm := by rw [← eO]; exact HM.out
      have HO := Lib.hid (show O1.hm = h1 ∧ O1.kd = p ∧ O1.ks = [] ∧ O1.b = w2.heap.size by rw [← eO, hp3]; exact ⟨rfl, rfl, rfl, rfl⟩)
      have hBT : Same T w w2 := HB2.out
      have HB := Lib.hid (hBT.trans ((hts.same hbO).less hT2))
      have HC := Lib.hid hCo
      have CA := Lib.hid (add_any (hts.below hbO) ho kl ol)
      rw [eO, HMb] at CA
      unfold ocs at CA
      rw [HO.out.2.2.2] at CA
      have HMX := Lib.hid HMb
      have ltC : C < w2.heap.size := (Array.getElem?_eq_some_iff.1 hC2).1
      subst hp3
      clear hts htr h2 hC2 eC ho hbO hCo eO hBT HM kl ol HMb
      go_upto_region 8 with fail
      cases bm
      · go_wp2_with fail
        refine CA.out.mono ?_; rintro e w3 ⟨rfl, ⟨M3, h3⟩, s3⟩
        have HP : Hid (PZ W T t mB BO os G gm v w3) := Lib.hid ⟨⟨M3, by simpa using h3.less (T' := T) hT2⟩, HH.out.lp.same ((HB.out).trans (s3.less hT2)), HH.out.wt, HH.out.lm, HH.out.tr⟩
        clear h3 s3 CA
        go_wp2_with fail
        go_ret
        exact ⟨rfl, T, os, G, gm, v, fun _ h => h, HP.out⟩
      go_wp2_with fail
      refine CA.out.mono ?_; rintro e w3 ⟨rfl, ⟨M3, h3⟩, s3⟩
      simp only [if_true] at h3
      have hC3 : w3.heap[C]? = _ := (s3 C (by simp)).trans HC.out
      obtain ⟨w4, e4⟩ : ∃ w4, w3.setCell ⟨C, 0, none⟩ (.int .i64 1) = w4 := ⟨_, rfl⟩
      have hC4 : w4.heap[C]? = some (Obj.cells #[.int .i64 1, .int .u64 (n1 : Int), .int .u64 (h1 : Int), .int .i64 3, .int .i64 on] 30) := by rw [← e4]; exact heap_setCell_same w3 C 0 _ 30 (.int .i64 1) hC3
      have hCW : W.heap.size ≤ C := by rw [← EC.out]; exact HH.out.size
      have h4 : TS W T t M3 (os ++ [n1]) (addG G n1 O1) w4 := by rw [← e4]; exact (h3.set C 0 _ (by simp) hCW).less hT2
      have hCT : C ∉ T := fun hm => by have := HH.out.tl C hm; have := EC.out; omega
      have s4 : Same T w w4 := by
        rw [← e4]
        exact (HB.out.trans (s3.less hT2)).trans fun b hb => heap_setCell_other _ _ _ _ fun e => hCT (by have e2 : b = C := e; rw [← e2]; exact hb)
      have dd0 : w3.cell? ⟨C, 0, none⟩ = some (.int .i64 k) := by rw [cell_of_row _ _ _ _ _ (0, 0) hC3]; rfl
      have ff0 : w3.frozen? ⟨C, 0, none⟩ = false := frozen_of_row _ _ _ _ _ hC3
      obtain ⟨w5, r5, t5, h5, m5, b5, rw5, lm5, tr5⟩ := HH.out.put h4 s4 HMX.out (c := ⟨1, (n1 : Int), (h1 : Int), 3, on⟩) HO.out.2.2.1 (by have := HN.out; omega) (by have := HN.out; rw [HO.out.1]; omega) ⟨rfl, by rw [HO.out.1], by rw [HO.out.2.1]⟩
      have z0 : w4.cell? ⟨C, 0, none⟩ = some (.int .i64 1) := by rw [cell_of_row _ _ _ _ _ (0, 0) hC4]; rfl
      have z1 : w4.cell? ⟨C, 1, none⟩ = some (.int .u64 (n1 : Int)) := by rw [cell_of_row _ _ _ _ _ (0, 0) hC4]; rfl
      have z2 : w4.cell? ⟨C, 2, none⟩ = some (.int .u64 (h1 : Int)) := by rw [cell_of_row _ _ _ _ _ (0, 0) hC4]; rfl
      have z3 : w4.cell? ⟨C, 3, none⟩ = some (.int .i64 3) := by rw [cell_of_row _ _ _ _ _ (0, 0) hC4]; rfl
      have z4 : w4.cell? ⟨C, 4, none⟩ = some (.int .i64 on) := by rw [cell_of_row _ _ _ _ _ (0, 0) hC4]; rfl
      dsimp only [vC] at r5
      have hCm : mB ≠ C := fun e => hCT (e ▸ HH.out.lp.mt)
      have y1 : w5.cell? ⟨C, 1, none⟩ = some (.int .u64 (n1 : Int)) := by
        rw [cell_of_row _ _ _ _ _ (0, 0) ((t5.block C (Array.getElem?_eq_some_iff.1 hC4).1 fun hm => hCm (List.mem_singleton.1 hm).symm).trans hC4)]; rfl
      have y0 : w5.cell? ⟨BO, 0, none⟩ = some v := by rw [cell_of_row _ _ 0 _ _ (0, 0) b5]; rfl
      obtain ⟨A6, l6, c6, w7, r7, b7, q7, T7, hT7, hP7⟩ := PZ.snoc (w2 := w5.drew) 27 HH.out.wt h5.drew (m5.same rfl) b5 (rw5.keep fun b cur hb _ => ⟨hb, rfl⟩) HH.out.lp.mt HH.out.lp.bt lm5 tr5
      have H5 := Lib.hid (And.intro t5 (And.intro hC4 (And.intro hCm hCT)))
      have HP7 := Lib.hid (And.intro hT7 hP7)
      have HB7 := Lib.hid (show w7.heap[BO]? = some (Obj.cells #[v] 27) ∧ w7.cell? ⟨C, 1, none⟩ = some (.int .u64 (n1 : Int)) from ⟨b7, by
        have hC5 := (t5.block C (Array.getElem?_eq_some_iff.1 hC4).1 fun hm => hCm (List.mem_singleton.1 hm).symm).trans hC4
        rw [cell_of_row _ _ _ _ _ (0, 0) ((q7 C _ _ hC5 (by decide)).trans hC5)]; rfl⟩)
      have HR7 := Lib.hid r7
      have HF := Lib.hid (show w5.cell? ⟨BO, 0, none⟩ = some v ∧ w5.cell? ⟨C, 1, none⟩ = some (.int .u64 (n1 : Int)) from ⟨y0, y1⟩)
      have HBl := Lib.hid (show BO < w5.heap.size ∧ C < w5.heap.size from ⟨(Array.getElem?_eq_some_iff.1 b5).1, block_lt_of_cell y1⟩)
      clear h3 s3 hC3 hC4 hCW h4 hCT s4 t5 h5 m5 b5 rw5 lm5 tr5 hCm y1 y0 hT7 hP7 b7 q7 r7 CA
      go_upto_region 12 with fail
      try rw [e4]
      clear e4 dd0 ff0
      go_upto_region 13 with fail
      clear z0 z1 z2 z3 z4 r5
      refine region_AU (Z := fun j => j == 9) (S := fun w' => w'.cell? ⟨BO, 0, none⟩ = some v ∧ w'.cell? ⟨C, 1, none⟩ = some (.int .u64 (n1 : Int))) (by kernel_rfl) HF.out (fun hHeld => ?_)
      refine AUS_take (by kernel_rfl) rfl (i := 0) (oi := _) (v := ?vw1) rfl (by kernel_rfl) (by kernel_rfl) (by kernel_rfl) (fun _ _ _ h => h) (Or.inl ⟨by rfl, ?hz1⟩) hHeld ?rst1
      case hz1 => (intro wS hSw; clear hSw; go_simp; try with_reducible rfl)
      simp only [Act.put, List.getElem_toArray, List.getElem_cons_zero, List.getElem_cons_succ, List.setIfInBounds_toArray, List.set_cons_zero, List.set_cons_succ]
      refine AUS_take (by kernel_rfl) rfl (i := 1) (oi := _) (v := ?vw2) rfl (by kernel_rfl) (by kernel_rfl) (by kernel_rfl) (fun _ _ _ h => h) (Or.inl ⟨by rfl, ?hz2⟩) hHeld ?rst2
      case hz2 => (intro wS hSw; clear hSw; go_simp; try with_reducible rfl)
      simp only [Act.put, List.getElem_toArray, List.getElem_cons_zero, List.getElem_cons_succ, List.setIfInBounds_toArray, List.set_cons_zero, List.set_cons_succ]
      refine AUS_take (by kernel_rfl) rfl (i := 2) (oi := _) (v := ?vw3) rfl (by kernel_rfl) (by kernel_rfl) (by kernel_rfl) (fun _ _ _ h => h) (Or.inl ⟨by rfl, ?hz3⟩) hHeld ?rst3
      case hz3 => (intro wS hSw; clear hSw; go_simp; try with_reducible rfl)
      simp only [Act.put, List.getElem_toArray, List.getElem_cons_zero, List.getElem_cons_succ, List.setIfInBounds_toArray, List.set_cons_zero, List.set_cons_succ]
      refine AUS_take (by kernel_rfl) rfl (i := 3) (oi := _) (v := ?vw4) rfl (by kernel_rfl) (by kernel_rfl) (by kernel_rfl) (fun _ _ _ h => h) (Or.inl ⟨by rfl, ?hz4⟩) hHeld ?rst4
      case hz4 => (intro wS hSw; (try dsimp only at hSw); obtain ⟨z1, z2⟩ := hSw; go_simp; try with_reducible rfl)
      simp only [Act.put, List.getElem_toArray, List.getElem_cons_zero, List.getElem_cons_succ, List.setIfInBounds_toArray, List.set_cons_zero, List.set_cons_succ]
      refine AUS_take (by kernel_rfl) rfl (i := 4) (oi := _) (v := ?vw5) rfl (by kernel_rfl) (by kernel_rfl) (by kernel_rfl) (fun _ _ _ h => h) (Or.inl ⟨by rfl, ?hz5⟩) hHeld ?rst5
      case hz5 => (intro wS hSw; clear hSw; go_simp; try with_reducible rfl)
      simp only [Act.put, List.getElem_toArray, List.getElem_cons_zero, List.getElem_cons_succ, List.setIfInBounds_toArray, List.set_cons_zero, List.set_cons_succ]
      refine AUS_take (by kernel_rfl) rfl (i := 5) (oi := _) (v := ?vw6) rfl (by kernel_rfl) (by kernel_rfl) (by kernel_rfl) (fun _ _ _ h => h) (Or.inl ⟨by rfl, ?hz6⟩) hHeld ?rst6
      case hz6 => (intro wS hSw; (try dsimp only at hSw); obtain ⟨z1, z2⟩ := hSw; go_simp; try with_reducible rfl)
      simp only [Act.put, List.getElem_toArray, List.getElem_cons_zero, List.getElem_cons_succ, List.setIfInBounds_toArray, List.set_cons_zero, List.set_cons_succ]
      refine AU_one (i := 6) (o := _) (by kernel_rfl) rfl (fun K hK => ?_)
      obtain ⟨w6, e6⟩ : ∃ w6, (w5.alloc (Obj.cells #[.int .u64 (n1 : Int)] 28)).drew = w6 := ⟨_, rfl⟩
      obtain ⟨Q, eQ⟩ : ∃ Q, w5.heap.size = Q := ⟨_, rfl⟩
      have hrun : (Builtin.append_ #[27, 27] 27 #[v, .slice (some ⟨Q, 0, none⟩) 1 1]).run Try.prog w6 = .ok (.slice A6 l6 c6) w7 := by rw [← e6, ← eQ]; exact HR7.out
      have hHeld6 : w6.cell? ⟨BO, 0, none⟩ = some v ∧ w6.cell? ⟨C, 1, none⟩ = some (.int .u64 (n1 : Int)) := by
        rw [← e6]
        exact ⟨(Below.cell (below_alloc1 w5 _) HBl.out.1).trans HF.out.1, (Below.cell (below_alloc1 w5 _) HBl.out.2).trans HF.out.2⟩
      have HE6 := Lib.hid (And.intro e6 eQ)
      have HR := Lib.hid hrun
      clear e6 eQ hrun hHeld
      go_simp
      rw [HE6.out.1, HE6.out.2]
      refine hK.out _ _ (fun _ => hHeld6) ?_
      clear hK K HE6
      try simp only [Act.put, List.getElem_toArray, List.getElem_cons_zero, List.getElem_cons_succ, List.setIfInBounds_toArray, List.set_cons_zero, List.set_cons_succ]
      refine AU_one (i := 7) (o := _) (by kernel_rfl) rfl (fun K hK => ?_)
      refine step_append (by rfl) _ _ _ _ (by rfl) _ _ _ (by rfl) (by rfl) w7 HR.out ?_
      have hHeld : w7.cell? ⟨BO, 0, none⟩ = some v ∧ w7.cell? ⟨C, 1, none⟩ = some (.int .u64 (n1 : Int)) := ⟨by rw [cell_of_row _ _ 0 _ _ (0, 0) HB7.out.1]; rfl, HB7.out.2⟩
      refine hK.out _ _ (fun _ => hHeld) ?_
      clear hK K HR
      try simp only [Act.put, List.getElem_toArray, List.getElem_cons_zero, List.getElem_cons_succ, List.setIfInBounds_toArray, List.set_cons_zero, List.set_cons_succ]
      refine AUS_take (by kernel_rfl) rfl (i := 8) (oi := _) (v := ?vw7) rfl (by kernel_rfl) (by kernel_rfl) (by kernel_rfl) (fun _ _ _ h => h) (Or.inl ⟨by rfl, ?hz7⟩) hHeld ?rst7
      case hz7 => (intro wS hSw; clear hSw; go_simp; try with_reducible rfl)
      simp only [Act.put, List.getElem_toArray, List.getElem_cons_zero, List.getElem_cons_succ, List.setIfInBounds_toArray, List.set_cons_zero, List.set_cons_succ]
      refine AU_one (i := 9) (o := _) (by kernel_rfl) rfl (fun K hK => ?_)
      have k2 : w7.frozen? ⟨BO, 0, none⟩ = false := frozen_of_row _ _ _ _ _ HB7.out.1
      obtain ⟨k1, _⟩ := hHeld
      go_simp
      refine hK.out _ _ (fun hz => (by cases hz)) ?_
      clear hK K k1 k2
      refine AU_done (by kernel_rfl) ?_ _
      simp only [OnlyN]
      go_wp2_with fail
      go_ret
      exact ⟨rfl, T7, _, _, _, _, HP7.out.1, HP7.out.2⟩
    · have q3 : (p == 3) = false := by simp [hp3]
      have ho := OB.new (w := w2) (nm := n1) (hm := h1) (own := own_ W (K :: C :: T)) (u64_of (by have := HN.out; omega)) (u64_of (by have := HN.out; omega)) p 0 (own_new hts (Nat.le_refl _))
      have hbO := below_alloc1 w2 (Obj.cells (ocs Try.zeroCells60 (.int .u64 (n1 : Int)) (.int .i64 p) (.int .u64 (h1 : Int))) 60)
      have hCo := (hbO.block C (Array.getElem?_eq_some_iff.1 hC2).1).trans hC2
      obtain ⟨O1, eO⟩ : ∃ O1, (⟨w2.heap.size, p, h1, [], none, 0⟩ : Ob) = O1 := ⟨_, rfl⟩
      have HMb : may G n1 O1 = bm := by rw [← eO]; exact HM.out
      have HO := Lib.hid (show O1.hm = h1 ∧ O1.kd = p ∧ O1.ks = [] ∧ O1.b = w2.heap.size by rw [← eO]; exact ⟨rfl, rfl, rfl, rfl⟩)
      have hBT : Same T w w2 := HB2.out
      have HB := Lib.hid (hBT.trans ((h2.below hbO).ts.choose_spec.tl |> fun _ => (hts.same hbO).less hT2))
      have HC := Lib.hid hCo
      have CA := Lib.hid (add_any (hts.below hbO) ho kl ol)
      rw [eO, HMb] at CA
      unfold ocs at CA
      rw [HO.out.2.2.2] at CA
      have p0e : O1.kd = p := HO.out.2.1
      have HMX := Lib.hid HMb
      have ltC : C < w2.heap.size := (Array.getElem?_eq_some_iff.1 hC2).1
      clear hts htr h2 hC2 eC ho hbO hCo eO hBT HM kl ol p0e HMb
      go_upto_region 8 with fail
      cases bm
      · go_wp2_with fail
        refine CA.out.mono ?_; rintro e w3 ⟨rfl, ⟨M3, h3⟩, s3⟩
        have HP : Hid (PZ W T t mB BO os G gm v w3) := Lib.hid ⟨⟨M3, by simpa using h3.less (T' := T) hT2⟩, HH.out.lp.same ((HB.out).trans (s3.less hT2)), HH.out.wt, HH.out.lm, HH.out.tr⟩
        clear h3 s3 CA
        go_wp2_with fail
        go_ret
        exact ⟨rfl, T, os, G, gm, v, fun _ h => h, HP.out⟩
      go_wp2_with fail
      refine CA.out.mono ?_; rintro e w3 ⟨rfl, ⟨M3, h3⟩, s3⟩
      simp only [if_true] at h3
      have hC3 : w3.heap[C]? = _ := (s3 C (by simp)).trans HC.out
      obtain ⟨w4, e4⟩ : ∃ w4, w3.setCell ⟨C, 0, none⟩ (.int .i64 1) = w4 := ⟨_, rfl⟩
      have hC4 : w4.heap[C]? = some (Obj.cells #[.int .i64 1, .int .u64 (n1 : Int), .int .u64 (h1 : Int), .int .i64 p, .int .i64 on] 30) := by rw [← e4]; exact heap_setCell_same w3 C 0 _ 30 (.int .i64 1) hC3
      have hCW : W.heap.size ≤ C := by rw [← EC.out]; exact HH.out.size
      have h4 : TS W T t M3 (os ++ [n1]) (addG G n1 O1) w4 := by rw [← e4]; exact (h3.set C 0 _ (by simp) hCW).less hT2
      have hCT : C ∉ T := fun hm => by have := HH.out.tl C hm; have := EC.out; omega
      have s4 : Same T w w4 := by
        rw [← e4]
        exact (HB.out.trans (s3.less hT2)).trans fun b hb => heap_setCell_other _ _ _ _ fun e => hCT (by have e2 : b = C := e; rw [← e2]; exact hb)
      have dd0 : w3.cell? ⟨C, 0, none⟩ = some (.int .i64 k) := by rw [cell_of_row _ _ _ _ _ (0, 0) hC3]; rfl
      have ff0 : w3.frozen? ⟨C, 0, none⟩ = false := frozen_of_row _ _ _ _ _ hC3
      obtain ⟨w5, r5, t5, h5, m5, b5, rw5, lm5, tr5⟩ := HH.out.put h4 s4 HMX.out (c := ⟨1, (n1 : Int), (h1 : Int), p, on⟩) HO.out.2.2.1 (by have := HN.out; omega) (by have := HN.out; rw [HO.out.1]; omega) ⟨rfl, by rw [HO.out.1], by rw [HO.out.2.1]⟩
      have z0 : w4.cell? ⟨C, 0, none⟩ = some (.int .i64 1) := by rw [cell_of_row _ _ _ _ _ (0, 0) hC4]; rfl
      have z1 : w4.cell? ⟨C, 1, none⟩ = some (.int .u64 (n1 : Int)) := by rw [cell_of_row _ _ _ _ _ (0, 0) hC4]; rfl
      have z2 : w4.cell? ⟨C, 2, none⟩ = some (.int .u64 (h1 : Int)) := by rw [cell_of_row _ _ _ _ _ (0, 0) hC4]; rfl
      have z3 : w4.cell? ⟨C, 3, none⟩ = some (.int .i64 p) := by rw [cell_of_row _ _ _ _ _ (0, 0) hC4]; rfl
      have z4 : w4.cell? ⟨C, 4, none⟩ = some (.int .i64 on) := by rw [cell_of_row _ _ _ _ _ (0, 0) hC4]; rfl
      dsimp only [vC] at r5
      have hCm : mB ≠ C := fun e => hCT (e ▸ HH.out.lp.mt)
      have y1 : w5.cell? ⟨C, 1, none⟩ = some (.int .u64 (n1 : Int)) := by
        rw [cell_of_row _ _ _ _ _ (0, 0) ((t5.block C (Array.getElem?_eq_some_iff.1 hC4).1 fun hm => hCm (List.mem_singleton.1 hm).symm).trans hC4)]; rfl
      have y0 : w5.cell? ⟨BO, 0, none⟩ = some v := by rw [cell_of_row _ _ 0 _ _ (0, 0) b5]; rfl
      obtain ⟨A6, l6, c6, w7, r7, b7, q7, T7, hT7, hP7⟩ := PZ.snoc (w2 := w5.drew) 27 HH.out.wt h5.drew (m5.same rfl) b5 (rw5.keep fun b cur hb _ => ⟨hb, rfl⟩) HH.out.lp.mt HH.out.lp.bt lm5 tr5
      have H5 := Lib.hid (And.intro t5 (And.intro hC4 (And.intro hCm hCT)))
      have HP7 := Lib.hid (And.intro hT7 hP7)
      have HB7 := Lib.hid (show w7.heap[BO]? = some (Obj.cells #[v] 27) ∧ w7.cell? ⟨C, 1, none⟩ = some (.int .u64 (n1 : Int)) from ⟨b7, by
        have hC5 := (t5.block C (Array.getElem?_eq_some_iff.1 hC4).1 fun hm => hCm (List.mem_singleton.1 hm).symm).trans hC4
        rw [cell_of_row _ _ _ _ _ (0, 0) ((q7 C _ _ hC5 (by decide)).trans hC5)]; rfl⟩)
      have HR7 := Lib.hid r7
      have HF := Lib.hid (show w5.cell? ⟨BO, 0, none⟩ = some v ∧ w5.cell? ⟨C, 1, none⟩ = some (.int .u64 (n1 : Int)) from ⟨y0, y1⟩)
      have HBl := Lib.hid (show BO < w5.heap.size ∧ C < w5.heap.size from ⟨(Array.getElem?_eq_some_iff.1 b5).1, block_lt_of_cell y1⟩)
      clear h3 s3 hC3 hC4 hCW h4 hCT s4 t5 h5 m5 b5 rw5 lm5 tr5 hCm y1 y0 hT7 hP7 b7 q7 r7 CA
      go_upto_region 12 with fail
      try rw [e4]
      clear e4 dd0 ff0
      go_upto_region 13 with fail
      clear z0 z1 z2 z3 z4 r5
      refine region_AU (Z := fun j => j == 9) (S := fun w' => w'.cell? ⟨BO, 0, none⟩ = some v ∧ w'.cell? ⟨C, 1, none⟩ = some (.int .u64 (n1 : Int))) (by kernel_rfl) HF.out (fun hHeld => ?_)
      refine AUS_take (by kernel_rfl) rfl (i := 0) (oi := _) (v := ?vw101) rfl (by kernel_rfl) (by kernel_rfl) (by kernel_rfl) (fun _ _ _ h => h) (Or.inl ⟨by rfl, ?hz101⟩) hHeld ?rst101
      case hz101 => (intro wS hSw; clear hSw; go_simp; try with_reducible rfl)
      simp only [Act.put, List.getElem_toArray, List.getElem_cons_zero, List.getElem_cons_succ, List.setIfInBounds_toArray, List.set_cons_zero, List.set_cons_succ]
      refine AUS_take (by kernel_rfl) rfl (i := 1) (oi := _) (v := ?vw102) rfl (by kernel_rfl) (by kernel_rfl) (by kernel_rfl) (fun _ _ _ h => h) (Or.inl ⟨by rfl, ?hz102⟩) hHeld ?rst102
      case hz102 => (intro wS hSw; clear hSw; go_simp; try with_reducible rfl)
      simp only [Act.put, List.getElem_toArray, List.getElem_cons_zero, List.getElem_cons_succ, List.setIfInBounds_toArray, List.set_cons_zero, List.set_cons_succ]
      refine AUS_take (by kernel_rfl) rfl (i := 2) (oi := _) (v := ?vw103) rfl (by kernel_rfl) (by kernel_rfl) (by kernel_rfl) (fun _ _ _ h => h) (Or.inl ⟨by rfl, ?hz103⟩) hHeld ?rst103
      case hz103 => (intro wS hSw; clear hSw; go_simp; try with_reducible rfl)
      simp only [Act.put, List.getElem_toArray, List.getElem_cons_zero, List.getElem_cons_succ, List.setIfInBounds_toArray, List.set_cons_zero, List.set_cons_succ]
      refine AUS_take (by kernel_rfl) rfl (i := 3) (oi := _) (v := ?vw104) rfl (by kernel_rfl) (by kernel_rfl) (by kernel_rfl) (fun _ _ _ h => h) (Or.inl ⟨by rfl, ?hz104⟩) hHeld ?rst104
      case hz104 => (intro wS hSw; (try dsimp only at hSw); obtain ⟨z1, z2⟩ := hSw; go_simp; try with_reducible rfl)
      simp only [Act.put, List.getElem_toArray, List.getElem_cons_zero, List.getElem_cons_succ, List.setIfInBounds_toArray, List.set_cons_zero, List.set_cons_succ]
      refine AUS_take (by kernel_rfl) rfl (i := 4) (oi := _) (v := ?vw105) rfl (by kernel_rfl) (by kernel_rfl) (by kernel_rfl) (fun _ _ _ h => h) (Or.inl ⟨by rfl, ?hz105⟩) hHeld ?rst105
      case hz105 => (intro wS hSw; clear hSw; go_simp; try with_reducible rfl)
      simp only [Act.put, List.getElem_toArray, List.getElem_cons_zero, List.getElem_cons_succ, List.setIfInBounds_toArray, List.set_cons_zero, List.set_cons_succ]
      refine AUS_take (by kernel_rfl) rfl (i := 5) (oi := _) (v := ?vw106) rfl (by kernel_rfl) (by kernel_rfl) (by kernel_rfl) (fun _ _ _ h => h) (Or.inl ⟨by rfl, ?hz106⟩) hHeld ?rst106
      case hz106 => (intro wS hSw; (try dsimp only at hSw); obtain ⟨z1, z2⟩ := hSw; go_simp; try with_reducible rfl)
      simp only [Act.put, List.getElem_toArray, List.getElem_cons_zero, List.getElem_cons_succ, List.setIfInBounds_toArray, List.set_cons_zero, List.set_cons_succ]
      refine AU_one (i := 6) (o := _) (by kernel_rfl) rfl (fun K hK => ?_)
      obtain ⟨w6, e6⟩ : ∃ w6, (w5.alloc (Obj.cells #[.int .u64 (n1 : Int)] 28)).drew = w6 := ⟨_, rfl⟩
      obtain ⟨Q, eQ⟩ : ∃ Q, w5.heap.size = Q := ⟨_, rfl⟩
      have hrun : (Builtin.append_ #[27, 27] 27 #[v, .slice (some ⟨Q, 0, none⟩) 1 1]).run Try.prog w6 = .ok (.slice A6 l6 c6) w7 := by rw [← e6, ← eQ]; exact HR7.out
      have hHeld6 : w6.cell? ⟨BO, 0, none⟩ = some v ∧ w6.cell? ⟨C, 1, none⟩ = some (.int .u64 (n1 : Int)) := by
        rw [← e6]
        exact ⟨(Below.cell (below_alloc1 w5 _) HBl.out.1).trans HF.out.1, (Below.cell (below_alloc1 w5 _) HBl.out.2).trans HF.out.2⟩
      have HE6 := Lib.hid (And.intro e6 eQ)
      have HR := Lib.hid hrun
      clear e6 eQ hrun hHeld
      go_simp
      rw [HE6.out.1, HE6.out.2]
      refine hK.out _ _ (fun _ => hHeld6) ?_
      clear hK K HE6
      try simp only [Act.put, List.getElem_toArray, List.getElem_cons_zero, List.getElem_cons_succ, List.setIfInBounds_toArray, List.set_cons_zero, List.set_cons_succ]
      refine AU_one (i := 7) (o := _) (by kernel_rfl) rfl (fun K hK => ?_)
      refine step_append (by rfl) _ _ _ _ (by rfl) _ _ _ (by rfl) (by rfl) w7 HR.out ?_
      have hHeld : w7.cell? ⟨BO, 0, none⟩ = some v ∧ w7.cell? ⟨C, 1, none⟩ = some (.int .u64 (n1 : Int)) := ⟨by rw [cell_of_row _ _ 0 _ _ (0, 0) HB7.out.1]; rfl, HB7.out.2⟩
      refine hK.out _ _ (fun _ => hHeld) ?_
      clear hK K HR
      try simp only [Act.put, List.getElem_toArray, List.getElem_cons_zero, List.getElem_cons_succ, List.setIfInBounds_toArray, List.set_cons_zero, List.set_cons_succ]
      refine AUS_take (by kernel_rfl) rfl (i := 8) (oi := _) (v := ?vw107) rfl (by kernel_rfl) (by kernel_rfl) (by kernel_rfl) (fun _ _ _ h => h) (Or.inl ⟨by rfl, ?hz107⟩) hHeld ?rst107
      case hz107 => (intro wS hSw; clear hSw; go_simp; try with_reducible rfl)
      simp only [Act.put, List.getElem_toArray, List.getElem_cons_zero, List.getElem_cons_succ, List.setIfInBounds_toArray, List.set_cons_zero, List.set_cons_succ]
      refine AU_one (i := 9) (o := _) (by kernel_rfl) rfl (fun K hK => ?_)
      have k2 : w7.frozen? ⟨BO, 0, none⟩ = false := frozen_of_row _ _ _ _ _ HB7.out.1
      obtain ⟨k1, _⟩ := hHeld
      go_simp
      refine hK.out _ _ (fun hz => (by cases hz)) ?_
      clear hK K k1 k2
      refine AU_done (by kernel_rfl) ?_ _
      simp only [OnlyN]
      go_wp2_with fail
      go_ret
      exact ⟨rfl, T7, _, _, _, _, HP7.out.1, HP7.out.2⟩
end Go.Proofs.Ytodionedjokdmaa
