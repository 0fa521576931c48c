import Derived.Test.YtodionedjokdmaaSi
import Derived.Test.YtodionedjokdmaaNd
import Derived.Laws.MakeOwn
namespace Go.Proofs.Ytodionedjokdmaa
open Go.RowKit
set_option linter.unusedVariables false
set_option linter.unusedSimpArgs false

theorem cells2 {wx : World} {B : Nat} {a b : Value} (h : wx.heap[B]? = some (Obj.cells #[a, b] 44)) : wx.cell? ⟨B, 0, none⟩ = some a ∧ wx.cell? ⟨B, 1, none⟩ = some b :=
  ⟨by rw [cell_of_row _ _ 0 _ 44 (0, 0) h]; rfl, by rw [cell_of_row _ _ 1 _ 44 (0, 0) h]; rfl⟩
theorem take_get {ps : List (Nat × Int)} {i j : Nat} {p : Nat × Int} (h : (ps.take i)[j]? = some p) : ps[j]? = some p := by
  have hlt : j < i := by have := (List.getElem?_eq_some_iff.1 h).1; rw [List.length_take] at this; omega
  rwa [List.getElem?_take_of_lt hlt] at h
theorem form3 {w : World} {base e k : Nat} {v : Value} {xs : List Value} (h : w.ownsRow base e 2 v k xs) (hn : v ≠ .slice none 0 0) : ∃ g c, v = .slice (some ⟨g, 0, none⟩) k c := by
  rcases h.2 with ⟨h, _⟩ | ⟨g', cap', cur, h, hg, _⟩
  · exact absurd h hn
  · exact ⟨_, _, h⟩
theorem Below.size' {B : Nat} {w w' : World} (h : Below B w w') (hB : B ≤ w.heap.size) : B ≤ w'.heap.size := Nat.le_trans hB h.size
theorem put_hit {ps : List (Nat × Int)} {D l : Int} {c i a k n : Nat} (hl : ps.length = n) (hi : i ≤ n) (ha : a ≤ n) (h1 : ps.take i = ps.filter (fun p => decide (p.1 < c))) (h2 : ps.drop a = ps.filter (fun p => decide (c < p.1))) (hlD : l = D) (hk : n - a = k) :
    F (Lab.put D ps c l) = F (ps.take i) ++ F (ps.drop a) ∧ (Lab.put D ps c l).length = i + k := by
  have e : Lab.put D ps c l = ps.take i ++ ps.drop a := by rw [h1, h2, Lab.put, if_pos hlD]; simp
  rw [e, F_append, List.length_append, List.length_take, List.length_drop, hl]
  exact ⟨rfl, by omega⟩
theorem put_new {ps : List (Nat × Int)} {D l : Int} {c i a k n : Nat} (hl : ps.length = n) (hi : i ≤ n) (ha : a ≤ n) (h1 : ps.take i = ps.filter (fun p => decide (p.1 < c))) (h2 : ps.drop a = ps.filter (fun p => decide (c < p.1))) (hlD : l ≠ D) (hk : n - a = k) :
    F (Lab.put D ps c l) = (F (ps.take i) ++ [.int .u32 (c : Int), .int .i64 l] : List Value) ++ F (ps.drop a) ∧ (Lab.put D ps c l).length = i + 1 + k := by
  have e : Lab.put D ps c l = (ps.take i ++ [(c, l)]) ++ ps.drop a := by rw [h1, h2, Lab.put, if_neg hlD]; simp
  rw [e, F_append, F_snoc, List.length_append, List.length_append, List.length_take, List.length_drop, hl]
  exact ⟨rfl, by simp; omega⟩
set_option maxRecDepth 100000 in
set_option maxHeartbeats 4000000 in
theorem pwith_some (b off cap n : Nat) (ps : List (Nat × Int)) (D : Int) (c : Nat) (l : Int) (w : World) (hr : Lab.Rise ps) (hl : ps.length = n) (hcap : n ≤ cap) (hn : n ≤ 8796093022207 / 2) (hb : b < w.heap.size)
   (hc : ∀ i p, ps[i]? = some p → w.cell? ⟨b, off + i * 2, none⟩ = some (.int .u32 p.1) ∧ w.cell? ⟨b, off + i * 2 + 1, none⟩ = some (.int .i64 p.2)) :
    Calls Try.prog 17 #[.agg #[.int .i64 D, .slice (some ⟨b, off, none⟩) n cap], .int .u32 c, .int .i64 l] w (Gives w D (Lab.put D ps c l)) := by
  obtain ⟨i0, hi, hz0, hz1, hz2⟩ := info_parts info47
  have hrd : ∀ wx, Below w.heap.size w wx → Reads wx (.slice (some ⟨b, off, none⟩) n cap) ps := fun wx hx => by
    refine .inr ⟨b, off, cap, by rw [hl], by have := hx.size; omega, by omega, fun i p hp => ?_⟩
    rw [hx.cell (p := ⟨b, _, none⟩) hb, hx.cell (p := ⟨b, _, none⟩) hb]; exact hc i p hp
  have HC := Lib.hid hc
  have HL := Lib.hid hl
  have HRI := Lib.hid hr
  have hb0 : Below w.heap.size w ((w.alloc (Obj.cells #[.int .i64 D, .slice (some ⟨b, off, none⟩) n cap] 44)).alloc (Obj.cells #[.int .i64 0, .slice none 0 0] 44)) := ((Below.refl _ _).alloc (Nat.le_refl _) _).alloc (by simp) _
  have hx : ((w.alloc (Obj.cells #[.int .i64 D, .slice (some ⟨b, off, none⟩) n cap] 44)).alloc (Obj.cells #[.int .i64 0, .slice none 0 0] 44)).heap.size = w.heap.size + 2 ∧
      ((w.alloc (Obj.cells #[.int .i64 D, .slice (some ⟨b, off, none⟩) n cap] 44)).alloc (Obj.cells #[.int .i64 0, .slice none 0 0] 44)).heap[w.heap.size]? = some (Obj.cells #[.int .i64 D, .slice (some ⟨b, off, none⟩) n cap] 44) ∧
      ((w.alloc (Obj.cells #[.int .i64 D, .slice (some ⟨b, off, none⟩) n cap] 44)).alloc (Obj.cells #[.int .i64 0, .slice none 0 0] 44)).heap[w.heap.size + 1]? = some (Obj.cells #[.int .i64 0, .slice none 0 0] 44) := by
    refine ⟨by simp, ?_, ?_⟩
    · rw [Below.heap_alloc _ _ _ (by simp)]; exact heap_alloc_new w _
    · have := heap_alloc_new (w.alloc (Obj.cells #[.int .i64 D, .slice (some ⟨b, off, none⟩) n cap] 44)) (Obj.cells #[.int .i64 0, .slice none 0 0] 44); simpa using this
  obtain ⟨W0, e0⟩ : ∃ W0, W0 = (w.alloc (Obj.cells #[.int .i64 D, .slice (some ⟨b, off, none⟩) n cap] 44)).alloc (Obj.cells #[.int .i64 0, .slice none 0 0] 44) := ⟨_, rfl⟩
  rw [← e0] at hb0 hx
  obtain ⟨hs, x0, x1⟩ := hx
  have d00 : W0.cell? ⟨w.heap.size, 0, none⟩ = some (.int .i64 D) := by rw [cell_of_row _ _ 0 _ 44 (0, 0) x0]; rfl
  have d01 : W0.cell? ⟨w.heap.size, 1, none⟩ = some (.slice (some ⟨b, off, none⟩) n cap) := by rw [cell_of_row _ _ 1 _ 44 (0, 0) x0]; rfl
  obtain ⟨Z, eZ⟩ : ∃ Z, Lab.put D ps c l = Z := ⟨_, rfl⟩
  have C1 := Lib.hid (find_any (.slice (some ⟨b, off, none⟩) n cap) ps D c W0 hr (hrd W0 hb0))
  have HX := Lib.hid (And.intro hs (And.intro x0 x1))
  have HB := Lib.hid hb0
  have EZ := Lib.hid eZ
  rw [eZ]
  clear hc hl hr hrd hb0 hs x0 x1 eZ
  go_enter Try.func17, Try.ntmps17
  go_upto_region 1 with fail
  rw [← e0]
  clear e0
  go_wp2_with fail
  refine C1.out.mono ?_
  rintro e w1 ⟨i, fnd, rfl, hpos, hfnd, hb1⟩
  have hin : i ≤ n := by have := hpos.1; have := HL.out; omega
  obtain ⟨after, ha, ht, hfa⟩ : ∃ after, after ≤ n ∧ ps.drop after = ps.filter (fun p => decide (c < p.1)) ∧ ((fnd = true ∧ after = i + 1) ∨ (fnd = false ∧ after = i)) := by
    cases fnd with
    | true =>
      obtain ⟨p, hp, e⟩ := hfnd.1 rfl
      exact ⟨i + 1, by have := (List.getElem?_eq_some_iff.1 hp).1; have := HL.out; omega, Lab.drop_filter_found HRI.out hpos ⟨p, hp, e⟩, .inl ⟨rfl, rfl⟩⟩
    | false => exact ⟨i, hin, Lab.drop_filter_missed HRI.out hpos (fun h => by have := hfnd.2 h; cases this), .inr ⟨rfl, rfl⟩⟩
  have hpre := Lib.hid (Lab.take_filter hpos)
  have HT := Lib.hid ht
  have k0 : w1.heap[w.heap.size]? = some (Obj.cells #[.int .i64 D, .slice (some ⟨b, off, none⟩) n cap] 44) := by rw [hb1.block _ (by have := HX.out.1; omega)]; exact HX.out.2.1
  have k1 : w1.heap[w.heap.size + 1]? = some (Obj.cells #[.int .i64 0, .slice none 0 0] 44) := by rw [hb1.block _ (by have := HX.out.1; omega)]; exact HX.out.2.2
  have hsz1 : w.heap.size + 2 ≤ w1.heap.size := by have := hb1.size; have := HX.out.1; omega
  have HB1 := Lib.hid (HB.out.trans (hb1.mono HB.out.size))
  have HK := Lib.hid (And.intro k0 k1)
  have e01 : w1.cell? ⟨w.heap.size, 1, none⟩ = some (.slice (some ⟨b, off, none⟩) n cap) := by rw [cell_of_row _ _ 1 _ 44 (0, 0) k0]; rfl
  clear hpos hfnd ht hb1 k0 k1 d00 d01
  obtain ⟨wm, hmk, hownm, hgm⟩ := run_make_own (P := Try.prog) w1 w1.heap.size 42 101 i0 (.agg #[.int .u32 0, .int .i64 0]) 2 Try.underlying42 hi hz0 hz1 .i64 .i64 (n + 1) (by rw [hz2]; omega) (by unfold maxLen; omega) (Nat.le_refl _)
  have hmk' : (Instr.makeSlice 42 (.int .i64 0) (.int .i64 ((n : Int) + 1))).run Try.prog w1 = .ok (.slice (some ⟨w1.heap.size, 0, none⟩) 0 (n + 1)) wm := by simpa using hmk
  clear hmk
  have hbm : Below w1.heap.size w1 wm := (Below.refl _ _).grown hgm (Nat.le_refl _) (fun k hk => by cases hk)
  have HOM := Lib.hid hownm
  have HBM := Lib.hid hbm
  clear hownm hgm hbm
  have e00 : w1.cell? ⟨w.heap.size, 0, none⟩ = some (.int .i64 D) := by rw [cell_of_row _ _ 0 _ 44 (0, 0) HK.out.1]; rfl
  have hwsz := HBM.out.size
  have hcm : ∀ wx, Below w1.heap.size wm wx → Below w.heap.size w wx ∧ wx.heap[w.heap.size]? = some (Obj.cells #[.int .i64 D, .slice (some ⟨b, off, none⟩) n cap] 44) ∧ wx.heap[w.heap.size + 1]? = some (Obj.cells #[.int .i64 0, .slice none 0 0] 44) ∧
      ∀ i p, ps[i]? = some p → wx.cell? ⟨b, off + i * 2, none⟩ = some (.int .u32 p.1) ∧ wx.cell? ⟨b, off + i * 2 + 1, none⟩ = some (.int .i64 p.2) := fun wx hx => by
    have h1 := HBM.out.trans hx
    have h2 : Below w.heap.size w wx := HB1.out.trans (h1.mono HB1.out.size)
    refine ⟨h2, by rw [h1.block _ (by omega)]; exact HK.out.1, by rw [h1.block _ (by omega)]; exact HK.out.2, fun i p hp => ?_⟩
    rw [h2.cell (p := ⟨b, _, none⟩) hb, h2.cell (p := ⟨b, _, none⟩) hb]; exact HC.out i p hp
  have HCM := Lib.hid hcm
  clear hcm
  have u22 := Try.underlying42
  have z47 := Try.sizeOf47
  have hsl1 : ∀ wx, (Instr.slice 42 (.slice (some ⟨b, off, none⟩) n cap) none (some (.int .i64 i)) none).run Try.prog wx = .ok (.slice (some ⟨b, off, none⟩) i cap) wx := fun wx => by
    have : (i : Int) ≤ cap := by omega
    go_simp
  obtain ⟨o', ho'⟩ : ∃ o', (if cap = after then off else off + after * 2) = o' := ⟨_, rfl⟩
  obtain ⟨k2, hk2⟩ : ∃ k2, n - after = k2 := ⟨_, rfl⟩
  have hsl2 : ∀ wx, (Instr.slice 42 (.slice (some ⟨b, off, none⟩) n cap) (some (.int .i64 after)) none none).run Try.prog wx = .ok (.slice (some ⟨b, o', none⟩) k2 (cap - after)) wx := fun wx => by
    have h1 : (after : Int) ≤ n := by omega
    rw [← ho', ← hk2]
    by_cases e : cap = after
    · subst e
      go_simp
    · go_simp
  have hS : ∀ wx, Below w1.heap.size wm wx → wx.cell? ⟨w.heap.size, 0, none⟩ = some (.int .i64 D) ∧ wx.cell? ⟨w.heap.size, 1, none⟩ = some (.slice (some ⟨b, off, none⟩) n cap) ∧ wx.cell? ⟨w.heap.size + 1, 0, none⟩ = some (.int .i64 0) ∧ wx.frozen? ⟨w.heap.size + 1, 0, none⟩ = false ∧ (wx.setCell ⟨w.heap.size + 1, 0, none⟩ (.int .i64 D)).cell? ⟨w.heap.size + 1, 1, none⟩ = some (.slice none 0 0) ∧ (wx.setCell ⟨w.heap.size + 1, 0, none⟩ (.int .i64 D)).frozen? ⟨w.heap.size + 1, 1, none⟩ = false := fun wx hx => by
    obtain ⟨_, h1, h2, _⟩ := HCM.out wx hx
    obtain ⟨a0, _, _, _, _, a1⟩ := old2 wx _ 44 _ _ (.int .i64 0) (.int .i64 0) h1
    obtain ⟨s0, s1, s2, s3, _, _⟩ := old2 wx _ 44 _ _ (.int .i64 D) (.int .i64 0) h2
    exact ⟨a0, a1, s0, s1, s2, s3⟩
  have HS := Lib.hid hS
  obtain ⟨qa, qb, _⟩ := hS wm (Below.refl _ _)
  clear hS
  have HLP := Lib.hid (show (F (ps.take i)).length = i * 2 by rw [F_len, List.length_take, HL.out]; omega)
  have HNP := Lib.hid (fun (wx : World) (hx : Below w1.heap.size wm wx) => news_of (w := wx) (b := b) (off := off) (ps := ps.take i) (fun i' p hp => (HCM.out wx hx).2.2.2 i' p (take_get hp)))
  have HLN := Lib.hid (show (F (ps.drop after)).length = k2 * 2 by rw [F_len, List.length_drop, HL.out, hk2])
  have HNW := Lib.hid (fun (wx : World) (hx : Below w1.heap.size wm wx) => news_of (w := wx) (b := b) (off := o') (ps := ps.drop after) (fun i' p hp => by
    have hp' : ps[after + i']? = some p := by rw [List.getElem?_drop] at hp; exact hp
    have hlt := (List.getElem?_eq_some_iff.1 hp').1
    have := (HCM.out wx hx).2.2.2 _ p hp'
    rw [← ho', if_neg (by have := HL.out; omega), show off + after * 2 + i' * 2 = off + (after + i') * 2 from by omega]
    exact this))
  have HKK := Lib.hid hk2
  clear ho' hk2
  have HBd0 := HBM.out
  clear u22 z47
  rcases hfa with ⟨rfl, hA⟩ | ⟨rfl, hA⟩
  · have hA' : ((i : Int) + 1) = (after : Int) := by omega
    rw [← hA'] at hsl2
    clear hA hA'
    go_upto_region 6 with fail
    go_wp2_with (at_builtin; refine wpList_append_own _ rfl _ _ 42 rfl w1.heap.size 101 i0 (.agg #[.int .u32 0, .int .i64 0]) 2 16 Try.underlying42 hi hz0 hz1 hz2 rfl (by decide) _ _ _ rfl HOM.out ⟨b, off, none⟩ i cap (F (ps.take i)) rfl HLP.out (HNP.out _ (Below.refl _ _)) (F_one _) (by unfold maxLen; omega) (by omega) hwsz ?_)
    intro v1 w2 hown1 hg1 hnil1
    have HO1 := Lib.hid hown1
    have HB2 := Lib.hid ((Below.refl w1.heap.size wm).grown hg1 hwsz (fun k hk => (HOM.out.lt k hk).1))
    obtain ⟨g1, c1, rfl⟩ := form3 hown1 hnil1
    clear hown1 hg1 hnil1
    obtain ⟨q0, q1, _⟩ := HS.out _ HB2.out
    by_cases hlD : l = D
    · have tf : (l != D) = false := by rw [bne_eq_false_iff_eq]; exact hlD
      have hzq := Lib.hid (put_hit (ps := ps) (i := i) (a := after) (k := n - after) HL.out hin ha hpre.out HT.out hlD rfl)
      clear hlD
      have HOd := Lib.hid (owns_below HO1.out ((Below.refl w2.heap.size w2).drew))
      have HBd := Lib.hid (HB2.out.drew)
      have hcell := HS.out _ HBd.out
      obtain ⟨j0, hj, hy0, hy1, hy2⟩ := info_parts info47
      obtain ⟨XS, eXS⟩ : ∃ XS, (F (ps.take i) : List Value) = XS := ⟨_, rfl⟩
      rw [eXS] at HOd
      have EXS := Lib.hid eXS
      have hKle : i ≤ 4398046511104 := by omega
      have hk2le : k2 ≤ n := by have := HKK.out; omega
      clear eXS
      go_upto_region 9 with fail
      go_region_held3 (fun w' => w'.cell? ⟨w.heap.size, 0, none⟩ = some (.int .i64 D) ∧ w'.cell? ⟨w.heap.size, 1, none⟩ = some (.slice (some ⟨b, off, none⟩) n cap))
        (first
          | exact cells2 (HCM.out _ hfin.out).2.1
          | exact cells2 (HCM.out _ HBd.out).2.1
          | exact cells2 (by rw [heap_setCell_other _ _ _ _ (by simp), heap_setCell_other _ _ _ _ (by simp)]; exact (HCM.out _ hfin.out).2.1))
        (first
          | (refine step_append_own _ (by rfl) _ _ _ (by rfl) w1.heap.size 101 j0 _ 2 16 Try.underlying42 hj hy0 hy1 hy2 rfl (by omega) _ i _ (by rfl) HOd.out ⟨b, o', none⟩ k2 (cap - after) (F (ps.drop after)) (by rfl) HLN.out (HNW.out _ HBd.out) (F_one _) (by unfold maxLen; omega) (by omega) (Below.size' HBd.out hwsz) ?_
             intro v' w3 hown3 hgrow3 hnil3
             have hfin := Lib.hid (HBd.out.grown hgrow3 (Below.size' HBd.out hwsz) (fun k hk => (HOd.out.lt k hk).1))
             have hO3 := Lib.hid hown3
             obtain ⟨g3, c3, rfl⟩ := form3 hown3 (fun e => by first | exact hnil3 e | (have := hnil3.1 e; cases this.1))
             obtain ⟨_, _, r0, r1, r2, r3⟩ := HS.out _ hfin.out
             clear hown3 hgrow3 hnil3))
      all_goals
        have hzz := Lib.hid (show F Z = XS ++ F (ps.drop after) ∧ Z.length = i + k2 from by rw [← EZ.out, ← EXS.out, ← HKK.out]; exact hzq.out)
        have hG := gives_stored (R := w.heap.size + 1) (M := D) (Z := Z) (by omega) (by omega) HB1.out (by rw [hzz.out.1, hzz.out.2]; exact hO3.out) (HBM.out.trans hfin.out)
        have hS4 := (old2 _ (w.heap.size + 1) 44 _ _ (.int .i64 D) (.slice (some ⟨g3, 0, none⟩) (i + k2) c3) (HCM.out _ hfin.out).2.2.1).2.2.2.2.1
        have G := Lib.hid hG
        have S4 := Lib.hid hS4
        clear hG hS4 hcell
        go_wp2_with fail
        refine bodyPost_ret (results_cell_row (by rfl) _ _ (w.heap.size + 1) 44 _ (0, 0) _ (by rfl) S4.out Try.underlying44 rfl info24) rfl ⟨_, rfl, G.out⟩
    · have tf : (l != D) = true := by rw [bne_iff_ne]; exact hlD
      have hzq := Lib.hid (put_new (ps := ps) (i := i) (a := after) (k := n - after) HL.out hin ha hpre.out HT.out hlD rfl)
      clear hlD
      have hw2sz := HB2.out.size
      go_upto_region 8 with fail
      go_wp2_with (at_builtin; refine wpList_append_own _ rfl _ _ 42 rfl w1.heap.size 101 i0 (.agg #[.int .u32 0, .int .i64 0]) 2 16 Try.underlying42 hi hz0 hz1 hz2 rfl (by decide) _ _ _ rfl (HO1.out.alloc _) ⟨w2.heap.size, 0, none⟩ 1 1 [.int .u32 (c : Int), .int .i64 l] rfl rfl (cell_two_new _ _ _ _) (by simp [Value.oneCell']) (by unfold maxLen; omega) (by omega) (by simp; omega) ?_)
      intro v2 w3 hown2 hg2 hnil2
      have HO2 := Lib.hid hown2
      have HB3 := Lib.hid ((HB2.out.alloc (by omega) _).grown hg2 (by simp; omega) (fun k hk => (HO1.out.lt k hk).1))
      obtain ⟨g2, c2, rfl⟩ := form3 hown2 hnil2
      clear hown2 hg2 hnil2 q0 q1
      obtain ⟨q0, q1, _⟩ := HS.out _ HB3.out
      have HOd := Lib.hid (owns_below HO2.out ((Below.refl w3.heap.size w3).drew))
      have HBd := Lib.hid (HB3.out.drew)
      have hcell := HS.out _ HBd.out
      obtain ⟨j0, hj, hy0, hy1, hy2⟩ := info_parts info47
      obtain ⟨K, eK⟩ : ∃ K, i + 1 = K := ⟨_, rfl⟩
      obtain ⟨XS, eXS⟩ : ∃ XS, (F (ps.take i) ++ [.int .u32 (c : Int), .int .i64 l] : List Value) = XS := ⟨_, rfl⟩
      rw [eK] at HOd ⊢
      rw [eXS] at HOd
      have EK := Lib.hid eK
      have EXS := Lib.hid eXS
      have hKle : K ≤ 4398046511104 := by omega
      have hk2le : k2 ≤ n := by have := HKK.out; omega
      clear eXS eK
      go_upto_region 9 with fail
      go_region_held3 (fun w' => w'.cell? ⟨w.heap.size, 0, none⟩ = some (.int .i64 D) ∧ w'.cell? ⟨w.heap.size, 1, none⟩ = some (.slice (some ⟨b, off, none⟩) n cap))
        (first
          | exact cells2 (HCM.out _ hfin.out).2.1
          | exact cells2 (HCM.out _ HBd.out).2.1
          | exact cells2 (by rw [heap_setCell_other _ _ _ _ (by simp), heap_setCell_other _ _ _ _ (by simp)]; exact (HCM.out _ hfin.out).2.1))
        (first
          | (refine step_append_own _ (by rfl) _ _ _ (by rfl) w1.heap.size 101 j0 _ 2 16 Try.underlying42 hj hy0 hy1 hy2 rfl (by omega) _ K _ (by rfl) HOd.out ⟨b, o', none⟩ k2 (cap - after) (F (ps.drop after)) (by rfl) HLN.out (HNW.out _ HBd.out) (F_one _) (by unfold maxLen; omega) (by omega) (Below.size' HBd.out hwsz) ?_
             intro v' w3 hown3 hgrow3 hnil3
             have hfin := Lib.hid (HBd.out.grown hgrow3 (Below.size' HBd.out hwsz) (fun k hk => (HOd.out.lt k hk).1))
             have hO3 := Lib.hid hown3
             obtain ⟨g3, c3, rfl⟩ := form3 hown3 (fun e => by first | exact hnil3 e | (have := hnil3.1 e; cases this.1))
             obtain ⟨_, _, r0, r1, r2, r3⟩ := HS.out _ hfin.out
             clear hown3 hgrow3 hnil3))
      all_goals
        have hzz := Lib.hid (show F Z = XS ++ F (ps.drop after) ∧ Z.length = K + k2 from by rw [← EZ.out, ← EXS.out, ← EK.out, ← HKK.out]; exact hzq.out)
        have hG := gives_stored (R := w.heap.size + 1) (M := D) (Z := Z) (by omega) (by omega) HB1.out (by rw [hzz.out.1, hzz.out.2]; exact hO3.out) (HBM.out.trans hfin.out)
        have hS4 := (old2 _ (w.heap.size + 1) 44 _ _ (.int .i64 D) (.slice (some ⟨g3, 0, none⟩) (K + k2) c3) (HCM.out _ hfin.out).2.2.1).2.2.2.2.1
        have G := Lib.hid hG
        have S4 := Lib.hid hS4
        clear hG hS4 hcell
        go_wp2_with fail
        refine bodyPost_ret (results_cell_row (by rfl) _ _ (w.heap.size + 1) 44 _ (0, 0) _ (by rfl) S4.out Try.underlying44 rfl info24) rfl ⟨_, rfl, G.out⟩
  · have hA2 := hA.symm
    subst hA2
    clear hA
    go_upto_region 6 with fail
    go_wp2_with (at_builtin; refine wpList_append_own _ rfl _ _ 42 rfl w1.heap.size 101 i0 (.agg #[.int .u32 0, .int .i64 0]) 2 16 Try.underlying42 hi hz0 hz1 hz2 rfl (by decide) _ _ _ rfl HOM.out ⟨b, off, none⟩ i cap (F (ps.take i)) rfl HLP.out (HNP.out _ (Below.refl _ _)) (F_one _) (by unfold maxLen; omega) (by omega) hwsz ?_)
    intro v1 w2 hown1 hg1 hnil1
    have HO1 := Lib.hid hown1
    have HB2 := Lib.hid ((Below.refl w1.heap.size wm).grown hg1 hwsz (fun k hk => (HOM.out.lt k hk).1))
    obtain ⟨g1, c1, rfl⟩ := form3 hown1 hnil1
    clear hown1 hg1 hnil1
    obtain ⟨q0, q1, _⟩ := HS.out _ HB2.out
    by_cases hlD : l = D
    · have tf : (l != D) = false := by rw [bne_eq_false_iff_eq]; exact hlD
      have hzq := Lib.hid (put_hit (ps := ps) (i := i) (a := i) (k := n - i) HL.out hin ha hpre.out HT.out hlD rfl)
      clear hlD
      have HOd := Lib.hid (owns_below HO1.out ((Below.refl w2.heap.size w2).drew))
      have HBd := Lib.hid (HB2.out.drew)
      have hcell := HS.out _ HBd.out
      obtain ⟨j0, hj, hy0, hy1, hy2⟩ := info_parts info47
      obtain ⟨XS, eXS⟩ : ∃ XS, (F (ps.take i) : List Value) = XS := ⟨_, rfl⟩
      rw [eXS] at HOd
      have EXS := Lib.hid eXS
      have hKle : i ≤ 4398046511104 := by omega
      have hk2le : k2 ≤ n := by have := HKK.out; omega
      clear eXS
      go_upto_region 9 with fail
      go_region_held3 (fun w' => w'.cell? ⟨w.heap.size, 0, none⟩ = some (.int .i64 D) ∧ w'.cell? ⟨w.heap.size, 1, none⟩ = some (.slice (some ⟨b, off, none⟩) n cap))
        (first
          | exact cells2 (HCM.out _ hfin.out).2.1
          | exact cells2 (HCM.out _ HBd.out).2.1
          | exact cells2 (by rw [heap_setCell_other _ _ _ _ (by simp), heap_setCell_other _ _ _ _ (by simp)]; exact (HCM.out _ hfin.out).2.1))
        (first
          | (refine step_append_own _ (by rfl) _ _ _ (by rfl) w1.heap.size 101 j0 _ 2 16 Try.underlying42 hj hy0 hy1 hy2 rfl (by omega) _ i _ (by rfl) HOd.out ⟨b, o', none⟩ k2 (cap - i) (F (ps.drop i)) (by rfl) HLN.out (HNW.out _ HBd.out) (F_one _) (by unfold maxLen; omega) (by omega) (Below.size' HBd.out hwsz) ?_
             intro v' w3 hown3 hgrow3 hnil3
             have hfin := Lib.hid (HBd.out.grown hgrow3 (Below.size' HBd.out hwsz) (fun k hk => (HOd.out.lt k hk).1))
             have hO3 := Lib.hid hown3
             obtain ⟨g3, c3, rfl⟩ := form3 hown3 (fun e => by first | exact hnil3 e | (have := hnil3.1 e; cases this.1))
             obtain ⟨_, _, r0, r1, r2, r3⟩ := HS.out _ hfin.out
             clear hown3 hgrow3 hnil3))
      all_goals
        have hzz := Lib.hid (show F Z = XS ++ F (ps.drop i) ∧ Z.length = i + k2 from by rw [← EZ.out, ← EXS.out, ← HKK.out]; exact hzq.out)
        have hG := gives_stored (R := w.heap.size + 1) (M := D) (Z := Z) (by omega) (by omega) HB1.out (by rw [hzz.out.1, hzz.out.2]; exact hO3.out) (HBM.out.trans hfin.out)
        have hS4 := (old2 _ (w.heap.size + 1) 44 _ _ (.int .i64 D) (.slice (some ⟨g3, 0, none⟩) (i + k2) c3) (HCM.out _ hfin.out).2.2.1).2.2.2.2.1
        have G := Lib.hid hG
        have S4 := Lib.hid hS4
        clear hG hS4 hcell
        go_wp2_with fail
        refine bodyPost_ret (results_cell_row (by rfl) _ _ (w.heap.size + 1) 44 _ (0, 0) _ (by rfl) S4.out Try.underlying44 rfl info24) rfl ⟨_, rfl, G.out⟩
    · have tf : (l != D) = true := by rw [bne_iff_ne]; exact hlD
      have hzq := Lib.hid (put_new (ps := ps) (i := i) (a := i) (k := n - i) HL.out hin ha hpre.out HT.out hlD rfl)
      clear hlD
      have hw2sz := HB2.out.size
      go_upto_region 8 with fail
      go_wp2_with (at_builtin; refine wpList_append_own _ rfl _ _ 42 rfl w1.heap.size 101 i0 (.agg #[.int .u32 0, .int .i64 0]) 2 16 Try.underlying42 hi hz0 hz1 hz2 rfl (by decide) _ _ _ rfl (HO1.out.alloc _) ⟨w2.heap.size, 0, none⟩ 1 1 [.int .u32 (c : Int), .int .i64 l] rfl rfl (cell_two_new _ _ _ _) (by simp [Value.oneCell']) (by unfold maxLen; omega) (by omega) (by simp; omega) ?_)
      intro v2 w3 hown2 hg2 hnil2
      have HO2 := Lib.hid hown2
      have HB3 := Lib.hid ((HB2.out.alloc (by omega) _).grown hg2 (by simp; omega) (fun k hk => (HO1.out.lt k hk).1))
      obtain ⟨g2, c2, rfl⟩ := form3 hown2 hnil2
      clear hown2 hg2 hnil2 q0 q1
      obtain ⟨q0, q1, _⟩ := HS.out _ HB3.out
      have HOd := Lib.hid (owns_below HO2.out ((Below.refl w3.heap.size w3).drew))
      have HBd := Lib.hid (HB3.out.drew)
      have hcell := HS.out _ HBd.out
      obtain ⟨j0, hj, hy0, hy1, hy2⟩ := info_parts info47
      obtain ⟨K, eK⟩ : ∃ K, i + 1 = K := ⟨_, rfl⟩
      obtain ⟨XS, eXS⟩ : ∃ XS, (F (ps.take i) ++ [.int .u32 (c : Int), .int .i64 l] : List Value) = XS := ⟨_, rfl⟩
      rw [eK] at HOd ⊢
      rw [eXS] at HOd
      have EK := Lib.hid eK
      have EXS := Lib.hid eXS
      have hKle : K ≤ 4398046511104 := by omega
      have hk2le : k2 ≤ n := by have := HKK.out; omega
      clear eXS eK
      go_upto_region 9 with fail
      go_region_held3 (fun w' => w'.cell? ⟨w.heap.size, 0, none⟩ = some (.int .i64 D) ∧ w'.cell? ⟨w.heap.size, 1, none⟩ = some (.slice (some ⟨b, off, none⟩) n cap))
        (first
          | exact cells2 (HCM.out _ hfin.out).2.1
          | exact cells2 (HCM.out _ HBd.out).2.1
          | exact cells2 (by rw [heap_setCell_other _ _ _ _ (by simp), heap_setCell_other _ _ _ _ (by simp)]; exact (HCM.out _ hfin.out).2.1))
        (first
          | (refine step_append_own _ (by rfl) _ _ _ (by rfl) w1.heap.size 101 j0 _ 2 16 Try.underlying42 hj hy0 hy1 hy2 rfl (by omega) _ K _ (by rfl) HOd.out ⟨b, o', none⟩ k2 (cap - i) (F (ps.drop i)) (by rfl) HLN.out (HNW.out _ HBd.out) (F_one _) (by unfold maxLen; omega) (by omega) (Below.size' HBd.out hwsz) ?_
             intro v' w3 hown3 hgrow3 hnil3
             have hfin := Lib.hid (HBd.out.grown hgrow3 (Below.size' HBd.out hwsz) (fun k hk => (HOd.out.lt k hk).1))
             have hO3 := Lib.hid hown3
             obtain ⟨g3, c3, rfl⟩ := form3 hown3 (fun e => by first | exact hnil3 e | (have := hnil3.1 e; cases this.1))
             obtain ⟨_, _, r0, r1, r2, r3⟩ := HS.out _ hfin.out
             clear hown3 hgrow3 hnil3))
      all_goals
        have hzz := Lib.hid (show F Z = XS ++ F (ps.drop i) ∧ Z.length = K + k2 from by rw [← EZ.out, ← EXS.out, ← EK.out, ← HKK.out]; exact hzq.out)
        have hG := gives_stored (R := w.heap.size + 1) (M := D) (Z := Z) (by omega) (by omega) HB1.out (by rw [hzz.out.1, hzz.out.2]; exact hO3.out) (HBM.out.trans hfin.out)
        have hS4 := (old2 _ (w.heap.size + 1) 44 _ _ (.int .i64 D) (.slice (some ⟨g3, 0, none⟩) (K + k2) c3) (HCM.out _ hfin.out).2.2.1).2.2.2.2.1
        have G := Lib.hid hG
        have S4 := Lib.hid hS4
        clear hG hS4 hcell
        go_wp2_with fail
        refine bodyPost_ret (results_cell_row (by rfl) _ _ (w.heap.size + 1) 44 _ (0, 0) _ (by rfl) S4.out Try.underlying44 rfl info24) rfl ⟨_, rfl, G.out⟩
end Go.Proofs.Ytodionedjokdmaa
