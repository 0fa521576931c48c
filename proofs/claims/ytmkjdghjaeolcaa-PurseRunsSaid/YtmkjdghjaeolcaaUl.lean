/- PurseRuns. -/
import Derived.Test.YtmkjdghjaeolcaaUj
import Derived.Test.YtmkjdghjaeolcaaVq
set_option linter.unusedVariables false
set_option linter.unusedSimpArgs false
namespace Go.Proofs.Ytmkjdghjaeolcaa
open Go.RowKit
set_option linter.unusedVariables false
set_option linter.unusedSimpArgs false
/-- What % tells of a place. -/
theorem place_of (a : Int) (l : Nat) (h0 : 0 < l) (h1 : l ≤ 1000) : ∃ (t u : Int) (i : Nat), a.tmod (l : Int) = t ∧ RowKit.wrap64 (t + l) = u ∧ u.tmod (l : Int) = (i : Int) ∧ i < l := by
  have h2 := Int.tmod_lt_of_pos a (show (0 : Int) < l by omega)
  have h3 := Int.lt_tmod_of_pos a (show (0 : Int) < l by omega)
  have e : RowKit.wrap64 (a.tmod l + l) = a.tmod l + l := by unfold RowKit.wrap64; omega
  refine ⟨_, _, (a.tmod l + l).toNat % l, rfl, rfl, ?_, Nat.mod_lt _ h0⟩
  rw [e, Int.tmod_eq_emod_of_nonneg (by omega), Int.natCast_emod, Int.toNat_of_nonneg (by omega)]
theorem kind_of (a : Int) : ∃ (t u : Int) (i : Nat), a.tmod 5 = t ∧ RowKit.wrap64 (t + 5) = u ∧ u.tmod 5 = (i : Int) ∧ i < 5 := place_of a 5 (by omega) (by omega)
theorem Cls.at_ {w w' : World} {b off : Nat} {xs : List Cl} {k : Nat} {x : Cl} (h : Cls w (some ⟨b, off, none⟩) xs) (hx : xs[k]? = some x) (hb : Below w.heap.size w w') :
    x.ok ∧ w'.cell? ⟨b, off + k * 3, none⟩ = some (.int .i64 x.k) ∧ w'.cell? ⟨b, off + k * 3 + 1, none⟩ = some (.int .i64 x.a) ∧ w'.cell? ⟨b, off + k * 3 + 2, none⟩ = some (.int .i64 x.n) := by
  obtain ⟨b', o', e, h1, h2, h3, h4, h5⟩ := h k x hx
  injection e with e
  injection e with e1 e2
  subst e1 e2
  exact ⟨h1, by rw [hb.cell (p := ⟨b, _, none⟩) h2]; exact h3, by rw [hb.cell (p := ⟨b, _, none⟩) h2]; exact h4, by rw [hb.cell (p := ⟨b, _, none⟩) h2]; exact h5⟩
theorem PR.own_at {own own' : Nat → Prop} {w : World} {b o n c : Nat} {ps : List Pu} (h : PR own w (.slice (some ⟨b, o, none⟩) n c) ps) (hb : own' b) : PR own' w (.slice (some ⟨b, o, none⟩) n c) ps := by
  rcases h with ⟨_, h⟩ | ⟨g, o', cap, cur, h1, h2, h3⟩
  · cases h
  · have e : b = g := by
      injection h1 with e1
      injection e1 with e1
      injection e1 with e1
    exact .inr ⟨g, o', cap, cur, h1, by rw [← e]; exact hb, h3⟩
/-- What it is to be becomes what it was. -/
theorem GS.back {W w : World} {F : Nat} {x1 x2 v1 v2 : Value} {ps : List Pu} {us : List Int} {A B C : Nat} {p q : Pu} {d : Cl} (h : GS W F x1 x2 v1 v2 ps us A B C p q d w) :
    GS W F x1 x2 v1 v2 ps us A B C p p d (((w.setCell ⟨B, 0, none⟩ (.int .i64 p.l)).setCell ⟨B, 1, none⟩ (.int .i64 p.u)).setCell ⟨B, 2, none⟩ (.int .i64 p.g)) :=
  ((h.putB (j := 0) (q' := ⟨p.l, q.u, q.g⟩) (x := p.l) (by omega) rfl (Below.refl _ _)).putB (j := 1) (q' := ⟨p.l, p.u, q.g⟩) (x := p.u) (by omega) rfl (Below.refl _ _)).putB (j := 2) (q' := p) (x := p.g) (by omega) rfl (Below.refl _ _)
set_option maxRecDepth 100000 in
set_option maxHeartbeats 8000000 in
theorem runs_all (a0 : Int) (A : Option Addr) (n c : Nat) (w : World) (hc : n ≤ c) (hcm : c ≤ maxLen) (hr : 100 < n ∨ ∃ xs : List Cl, xs.length = n ∧ n ≤ 100 ∧ Cls w A xs) :
    Calls Try.prog 3 #[.int .i64 a0, .slice A n c] w fun e w' => e = .returned (.bool true) ∧ Below w.heap.size w w' := by
  have B0 := Lib.hid (fit_any w)
  have hcm' : c ≤ 9223372036854775807 := hcm
  by_cases hbig : 100 < n
  · have g1 : (n : Int) > 100 := by omega
    have g2 : (100 : Int) < n := by omega
    clear hr
    go_enter Try.func3, Try.ntmps3
    go_wp2_with fail
    refine B0.out.mono ?_; rintro e w1 ⟨rfl, hb⟩
    go_wp2_with fail
    go_ret
    exact ⟨rfl, hb⟩
  obtain ⟨xs, hl, hr⟩ : ∃ xs : List Cl, xs.length = n ∧ Cls w A xs := by
    rcases hr with h | ⟨xs, h1, _, h2⟩
    · exact absurd h hbig
    · exact ⟨xs, h1, h2⟩
  have HR := Lib.hid (And.intro hl hr)
  obtain ⟨L, eL, hL0, hL⟩ := and40 a0
  have HLB := Lib.hid (And.intro hL0 hL)
  clear hl hr hL0 hL
  have g1 : ¬ (n : Int) > 100 := by omega
  have g2 : ¬ (100 : Int) < n := by omega
  go_enter Try.func3, Try.ntmps3
  go_wp2_with fail
  refine B0.out.mono ?_; rintro e w1 ⟨rfl, hb⟩
  have b1 := below_up hb (below_alloc1 w1 (Obj.cells #[.int .i64 L, .int .i64 0, .int .i64 0] 26))
  have r1 := PR.one (own := fun b => w.heap.size ≤ b) w1 ⟨L, 0, 0⟩ hb.size
  obtain ⟨w2, e2⟩ : ∃ w2, w1.alloc (Obj.cells #[.int .i64 L, .int .i64 0, .int .i64 0] 26) = w2 := ⟨_, rfl⟩
  have z2 : w2.heap.size = w1.heap.size + 1 := by rw [← e2, World.size_alloc]
  have b2 := below_alloc1 w2 (Obj.cells #[.int .i64 (-1)] 3)
  have b3 := below_alloc1 (w2.alloc (Obj.cells #[.int .i64 (-1)] 3)) (Obj.cells #[.slice (some ⟨w1.heap.size, 0, none⟩) 1 1, .slice (some ⟨w2.heap.size, 0, none⟩) 1 1] 30)
  have i2 : RW (fun b => w.heap.size ≤ b) 3 inI (w2.alloc (Obj.cells #[.int .i64 (-1)] 3)) (.slice (some ⟨w2.heap.size, 0, none⟩) 1 1) [-1] := by
    refine .inr ⟨w2.heap.size, 0, 1, _, rfl, by rw [z2]; exact Nat.le_succ_of_le hb.size, heap_alloc_new w2 _, by simp, Nat.le_refl _, by unfold maxLen; omega, fun i x hi => ?_⟩
    match i with
    | 0 => obtain rfl : -1 = x := by simpa using hi
           rfl
    | i + 1 => simp at hi
  rw [e2] at b1
  have r2 : PR (fun b => w.heap.size ≤ b) w2 (.slice (some ⟨w1.heap.size, 0, none⟩) 1 1) [⟨L, 0, 0⟩] := by rw [← e2]; exact r1
  have hfs : FS w (w1.heap.size + 1 + 1) (.slice (some ⟨w1.heap.size, 0, none⟩) 1 1) (.slice (some ⟨w1.heap.size + 1, 0, none⟩) 1 1) [⟨L, 0, 0⟩] [-1] (((w1.alloc (Obj.cells #[.int .i64 L, .int .i64 0, .int .i64 0] 26)).alloc (Obj.cells #[.int .i64 (-1)] 3)).alloc (Obj.cells #[.slice (some ⟨w1.heap.size, 0, none⟩) 1 1, .slice (some ⟨w1.heap.size + 1, 0, none⟩) 1 1] 30)) := by
    rw [e2, ← z2]
    have hsz : (w2.alloc (Obj.cells #[.int .i64 (-1)] 3)).heap.size = w2.heap.size + 1 := World.size_alloc _ _
    refine ⟨below_up (below_up b1 b2) b3, by have := hb.size; omega, ?_, (r2.below b2).below b3, i2.keep fun b cur ho hc => ⟨ho, b3.block b (Array.getElem?_eq_some_iff.1 hc).1⟩⟩
    rw [← hsz]; exact heap_alloc_new _ _
  have HT : Hid (FS w (w1.heap.size + 1 + 1) (.slice (some ⟨w1.heap.size, 0, none⟩) 1 1) (.slice (some ⟨w1.heap.size + 1, 0, none⟩) 1 1) [⟨L, 0, 0⟩] [-1] _ ∧ Fam [⟨L, 0, 0⟩] [-1]) := Lib.hid ⟨hfs, Fam.one HLB.out.1 (by have := HLB.out.2; omega)⟩
  clear b1 r1 e2 z2 b2 b3 i2 r2 hfs hb w2
  go_wp2_with fail
  obtain ⟨F, eF⟩ : ∃ F, w1.heap.size + 1 + 1 = F := ⟨_, rfl⟩
  rw [eF] at HT ⊢
  clear eF
  go_loopg [31] n (fun gh i wr => ∃ k : Nat, k ≤ n ∧ gh = n - k ∧ i = .int .i64 k ∧ Hid (∃ v1 v2 ps us, FS w F v1 v2 ps us wr ∧ Fam ps us ∧ ps.length ≤ k + 1))
  case atStart => exact ⟨0, by omega, by omega, rfl, Lib.hid ⟨_, _, _, _, HT.out.1, HT.out.2, Nat.le_refl _⟩⟩
  case round =>
    clear HT
    obtain ⟨k, hk, hg, rfl, hI⟩ := hrel
    by_cases hlt : k < n
    · obtain ⟨v1, v2, ps, us, hfs, hfam, hlen⟩ := hI.out
      obtain ⟨d, hd⟩ : ∃ d, xs[k]? = some d := ⟨_, List.getElem?_eq_getElem (by rw [HR.out.1]; exact hlt)⟩
      obtain ⟨b, off, rfl, _⟩ := HR.out.2 k d hd
      obtain ⟨hdok, q0, q1, q2⟩ := HR.out.2.at_ hd hfs.b
      have i1 : IntKind.i64.wrap ((k : Int) + 1) = (k : Int) + 1 := by rw [IntKind.wrap_i64]; omega
      have l1 : (k : Int) < n := by omega
      obtain ⟨B, o, c1, rfl, hc1, hcm1, hB, hBl⟩ := hfs.r.form hfam.pos
      have hcm1' : c1 ≤ 9223372036854775807 := hcm1
      obtain ⟨m, em⟩ : ∃ m, ps.length = m := ⟨_, rfl⟩
      have hm0 : 0 < m := by rw [← em]; exact hfam.pos
      obtain ⟨t, u, i, e1, e2, e3, hi⟩ := place_of d.a m hm0 (by omega)
      obtain ⟨t5, u5, kd, e4, e5, e6, hkd⟩ := kind_of d.k
      have l2 : (i : Int) < m := by omega
      have l3 : ¬ (m : Int) = 0 := by omega
      rw [em] at hfs hc1
      have HF := Lib.hid (And.intro hfs (And.intro hfam (And.intro em (And.intro hdok (And.intro hi (And.intro hkd (And.intro hBl hlen)))))))
      have b1 := below_alloc1 wr (Obj.cells #[.int .i64 d.k, .int .i64 d.a, .int .i64 d.n] 32)
      have n1 := heap_alloc_new wr (Obj.cells #[.int .i64 d.k, .int .i64 d.a, .int .i64 d.n] 32)
      have H1 := Lib.hid (And.intro (hfs.below b1) n1)
      have s1 := hfs.lt
      have c0 := hfs.cells.1
      clear hfs hfam em hdok hI hlen hd b1 n1 hi hkd hm0
      go_wp2_with fail
      obtain ⟨W1, eW1⟩ : ∃ W1, wr.alloc (Obj.cells #[.int .i64 d.k, .int .i64 d.a, .int .i64 d.n] 32) = W1 := ⟨_, rfl⟩
      obtain ⟨C, eC⟩ : ∃ C, wr.heap.size = C := ⟨_, rfl⟩
      rw [eW1, eC] at H1
      rw [eW1, eC]
      clear eW1 eC s1 c0 q0 q1 q2
      have c0 := H1.out.1.cells.1
      have d1 : W1.cell? ⟨C, 1, none⟩ = some (.int .i64 d.a) := by rw [cell_of_row _ _ 1 _ _ _ H1.out.2]; rfl
      go_quiet (fail)
      rename_i nq
      obtain ⟨W2, eW2⟩ : ∃ W2, W1.drewN nq = W2 := ⟨_, rfl⟩
      have H2 : Hid (FS w F (.slice (some ⟨B, o, none⟩) m c1) v2 ps us W2 ∧ W2.heap[C]? = some (Obj.cells #[.int .i64 d.k, .int .i64 d.a, .int .i64 d.n] 32)) := Lib.hid (by
        rw [← eW2]; exact ⟨H1.out.1.below (below_dN _ _), H1.out.2⟩)
      rw [eW2]
      clear eW2 H1 c0 d1 e1 e2 e3
      obtain ⟨p, hp⟩ : ∃ p, ps[i]? = some p := ⟨_, List.getElem?_eq_getElem (by rw [HF.out.2.2.1]; exact HF.out.2.2.2.2.1)⟩
      have hpo := (HF.out.2.1.ok i p hp).1
      have hleft := (show Ok p.l p.u p.g from hpo).left
      obtain ⟨s, es⟩ : ∃ s, p.l - p.u = s := ⟨_, rfl⟩
      obtain ⟨r, er⟩ : ∃ r, s - p.g = r := ⟨_, rfl⟩
      have HE := Lib.hid (And.intro es (And.intro er (And.intro hpo hp)))
      rw [es, er] at hleft
      have x1 : RowKit.wrap64 (p.l - p.u) = s := by rw [es]; exact hleft.1
      have x2 : RowKit.wrap64 (s - p.g) = r := by rw [er]; exact hleft.2
      have c0 := H2.out.1.cells.1
      obtain ⟨p0, p1, p2, _, _, _⟩ := H2.out.1.r.pv hp
      have N1 := Lib.hid (PB.new W2 p)
      have b1 := below_alloc1 W2 (Obj.cells #[.int .i64 p.l, .int .i64 p.u, .int .i64 p.g] 26)
      have H3 := Lib.hid (And.intro (H2.out.1.below b1) (b1.block C (Array.getElem?_eq_some_iff.1 H2.out.2).1))
      have hB2 := H2.out.1.r.lt
      have HB2 := Lib.hid (show B < W2.heap.size from by obtain ⟨_, cur, hc⟩ := hB2; exact (Array.getElem?_eq_some_iff.1 hc).1)
      clear es er hpo hleft hp b1 hB2
      go_upto_region 14 with fail
      obtain ⟨W3, eW3⟩ : ∃ W3, W2.alloc (Obj.cells #[.int .i64 p.l, .int .i64 p.u, .int .i64 p.g] 26) = W3 := ⟨_, rfl⟩
      obtain ⟨N, eN⟩ : ∃ N, W2.heap.size = N := ⟨_, rfl⟩
      rw [eW3] at H3 N1
      rw [eN] at N1 HB2
      have HN : Hid (W3.heap.size = N + 1 ∧ w.heap.size ≤ N ∧ W3.heap[C]? = some (Obj.cells #[.int .i64 d.k, .int .i64 d.a, .int .i64 d.n] 32)) := Lib.hid ⟨by rw [← eW3, World.size_alloc, eN], by rw [← eN]; exact H2.out.1.b.size, H3.out.2.trans H2.out.2⟩
      have H3 := Lib.hid H3.out.1
      rw [eW3, eN]
      clear eW3 eN H2 p0 p1 p2 c0
      obtain ⟨p0, p1, p2, _, _, _⟩ := N1.out.pv
      have s1 := N1.out.lt
      have M1 := Lib.hid (PB.new W3 p)
      have b1 := Lib.hid (below_alloc1 W3 (Obj.cells #[.int .i64 p.l, .int .i64 p.u, .int .i64 p.g] 26))
      go_region
      obtain ⟨M, eM⟩ : ∃ M, W3.heap.size = M := ⟨_, rfl⟩
      obtain ⟨W4, eW4⟩ : ∃ W4, (W3.alloc (Obj.cells #[.int .i64 p.l, .int .i64 p.u, .int .i64 p.g] 26)).drew = W4 := ⟨_, rfl⟩
      have HG : Hid (GS w F (.slice (some ⟨B, o, none⟩) m c1) v2 (.slice (some ⟨B, o, none⟩) m c1) v2 ps us N M C p p d W4) := Lib.hid (by
        rw [← eW4]
        refine (GS.made (H3.out.below b1.out) (N1.out.below b1.out) (by rw [← eM]; exact M1.out) ((b1.out.block C (Array.getElem?_eq_some_iff.1 HN.out.2.2).1).trans HN.out.2.2) (by have := HN.out; omega) (by have := HN.out; omega) (PR.own_at ((H3.out.below b1.out).r) ?_)).drew
        have := H3.out.r.lt.1
        have := HB2.out
        have := HN.out
        exact ⟨by assumption, by omega, by omega⟩)
      rw [eM, eW4, x2]
      clear eM eW4 H3 N1 HN M1 b1 p0 p1 p2 s1 HB2
      have c0 := HG.out.call.1
      go_upto_block 2 with fail
      clear c0 e4 e5
      go_cut [12, 14] (fun vw ve wx => ∃ (ε : Int) (v1' v2' : Value) (ps' : List Pu) (us' : List Int) (p' th : Pu) (wz : World), wz = wx ∧ vw = .int .i64 ε ∧ ve = .int .i64 ε ∧ Hid (GS w F v1' v2' v1' v2' ps' us' N M C p th d wz ∧ Fam ps' us' ∧ ps'.length ≤ k + 2 ∧ ps'[i]? = some p' ∧ (ε = 0 → th = p') ∧ (ε ≠ 0 → p' = p)))
      case first =>
        obtain ⟨c2, hn⟩ : ∃ nn, d.n = nn := ⟨_, rfl⟩
        have hkd : kd < 5 := HF.out.2.2.2.2.2.1
        have HFM := Lib.hid HF.out.2.1
        have hp : ps[i]? = some p := HE.out.2.2.2
        have hlen : Hid (ps.length = m ∧ m ≤ k + 1) := Lib.hid ⟨HF.out.2.2.1, by have := HF.out.2.2.2.2.2.2.2; have := HF.out.2.2.1; omega⟩
        have HO := Lib.hid (And.intro (show Ok p.l p.u p.g from HE.out.2.2.1) (And.intro hp (show p.l - p.u - p.g = r from by have := HE.out.1; have := HE.out.2.1; omega)))
        have HD := Lib.hid (And.intro hn HF.out.2.2.2.1.2.2)
        have n0 := HG.out.call.2.2
        have HPV := Lib.hid (HG.out.fs.r.pv hp)
        rw [hn] at n0
        clear hn hp
        obtain rfl | rfl | rfl | rfl | rfl : kd = 0 ∨ kd = 1 ∨ kd = 2 ∨ kd = 3 ∨ kd = 4 := by omega
        · as_aux_lemma =>
          by_cases h0 : c2 < 0
          · have CC := Lib.hid (take_bad c2 HO.out.1 HPV.out (by unfold tk; rw [if_pos h0]; omega))
            have et : Hid (tk p.l p.u p.g c2 = 1) := Lib.hid (by unfold tk; rw [if_pos h0])
            rw [et.out] at CC
            clear et
            go_wp2_with fail
            refine CC.out.mono ?_; rintro e w5 ⟨rfl, hb⟩
            have H5 := Lib.hid (HG.out.below hb)
            clear hb CC n0
            have n0 := H5.out.call.2.2
            rw [HD.out.1] at n0
            obtain ⟨a0, a1, a2, _, _, _⟩ := H5.out.pa.pv
            obtain ⟨y0, y1, y2, z0, z1, z2⟩ := H5.out.pb.pv
            have t1 : C ≠ M := fun e => by have h1 := H5.out.pc; have h2 := H5.out.pb; rw [e] at h1; unfold PB at h2; rw [h1] at h2; simp at h2
            obtain ⟨z, ez⟩ : ∃ z, RowKit.wrap64 (p.u + c2) = z := ⟨_, rfl⟩
            go_wp2_with fail
            go_meet
            exact ⟨1, _, _, _, _, p, _, _, rfl, rfl, rfl, Lib.hid ⟨H5.out.putB (j := 1) (q' := ⟨p.l, z, p.g⟩) (x := z) (by omega) rfl (by rw [← ez]; exact Below.refl _ _), HFM.out, by have := hlen.out; omega, HO.out.2.1, (fun h => by cases h), fun _ => rfl⟩⟩
          · have h0' : ¬ c2 < 0 := h0
            by_cases h1 : c2 > r
            · have et : Hid (tk p.l p.u p.g c2 = 5) := Lib.hid (tk5 (by omega) (by have := HO.out.2.2; omega))
              have CC := Lib.hid (take_bad c2 HO.out.1 HPV.out (by rw [et.out]; omega))
              rw [et.out] at CC
              have h1' : r < c2 := h1
              clear et
              go_wp2_with fail
              refine CC.out.mono ?_; rintro e w5 ⟨rfl, hb⟩
              have H5 := Lib.hid (HG.out.below hb)
              clear hb CC n0
              have n0 := H5.out.call.2.2
              rw [HD.out.1] at n0
              obtain ⟨a0, a1, a2, _, _, _⟩ := H5.out.pa.pv
              obtain ⟨y0, y1, y2, z0, z1, z2⟩ := H5.out.pb.pv
              have t1 : C ≠ M := fun e => by have h1 := H5.out.pc; have h2 := H5.out.pb; rw [e] at h1; unfold PB at h2; rw [h1] at h2; simp at h2
              obtain ⟨z, ez⟩ : ∃ z, RowKit.wrap64 (p.u + c2) = z := ⟨_, rfl⟩
              go_wp2_with fail
              go_meet
              exact ⟨5, _, _, _, _, p, _, _, rfl, rfl, rfl, Lib.hid ⟨H5.out.putB (j := 1) (q' := ⟨p.l, z, p.g⟩) (x := z) (by omega) rfl (by rw [← ez]; exact Below.refl _ _), HFM.out, by have := hlen.out; omega, HO.out.2.1, (fun h => by cases h), fun _ => rfl⟩⟩
            · have et : tk p.l p.u p.g c2 = 0 := tk0 (by omega) (by have := HO.out.2.2; omega)
              have CC := Lib.hid (take_ok c2 HO.out.1 HPV.out et)
              have hsum := (tk_sum HO.out.1 et).1
              have hq : Hid ((⟨p.l, p.u + c2, p.g⟩ : Pu).ok) := Lib.hid (by
                have hk := HO.out.1
                have hr := HO.out.2.2
                unfold Pu.ok Ok at *
                show 0 ≤ p.u + c2 ∧ 0 ≤ p.g ∧ p.u + c2 + p.g ≤ p.l ∧ p.l ≤ _
                omega)
              have h1' : ¬ r < c2 := h1
              have HSU := Lib.hid hsum
              clear et hsum
              go_wp2_with fail
              refine CC.out.mono ?_; rintro e w5 ⟨rfl, hb⟩
              have H5 := Lib.hid (HG.out.put (j := 1) (q' := ⟨p.l, p.u + c2, p.g⟩) (x := p.u + c2) HO.out.2.1 (by omega) rfl hb)
              clear hb CC n0
              have n0 := H5.out.call.2.2
              rw [HD.out.1] at n0
              obtain ⟨a0, a1, a2, _, _, _⟩ := H5.out.pa.pv
              obtain ⟨y0, y1, y2, z0, z1, z2⟩ := H5.out.pb.pv
              have t1 : C ≠ M := fun e => by have h1 := H5.out.pc; have h2 := H5.out.pb; rw [e] at h1; unfold PB at h2; rw [h1] at h2; simp at h2
              obtain ⟨z, ez⟩ : ∃ z, RowKit.wrap64 (p.u + c2) = z := ⟨_, rfl⟩
              have hzz : Hid (z = p.u + c2) := Lib.hid (ez.symm.trans HSU.out)
              go_wp2_with fail
              go_meet
              exact ⟨0, _, _, _, _, ⟨p.l, p.u + c2, p.g⟩, _, _, rfl, rfl, rfl, Lib.hid ⟨H5.out.putB (j := 1) (q' := ⟨p.l, p.u + c2, p.g⟩) (x := p.u + c2) (by omega) rfl (by rw [← hzz.out, ← ez]; exact Below.refl _ _), HFM.out.used HO.out.2.1 hq.out rfl rfl, by rw [List.length_set]; have := hlen.out; omega, by rw [List.getElem?_set, if_pos rfl, if_pos (List.getElem?_eq_some_iff.1 HO.out.2.1).1], fun _ => rfl, fun h => absurd rfl h⟩⟩
        · as_aux_lemma =>
          by_cases h0 : c2 < 0 ∨ p.u < c2
          · have CC := Lib.hid (back_bad c2 HPV.out h0)
            by_cases h00 : c2 < 0
            · go_wp2_with fail
              refine CC.out.mono ?_; rintro e w5 ⟨rfl, hb⟩
              have H5 := Lib.hid (HG.out.below hb)
              clear hb CC n0
              have n0 := H5.out.call.2.2
              rw [HD.out.1] at n0
              obtain ⟨a0, a1, a2, _, _, _⟩ := H5.out.pa.pv
              obtain ⟨y0, y1, y2, z0, z1, z2⟩ := H5.out.pb.pv
              have t1 : C ≠ M := fun e => by have h1 := H5.out.pc; have h2 := H5.out.pb; rw [e] at h1; unfold PB at h2; rw [h1] at h2; simp at h2
              have t2 : N ≠ M := H5.out.ne
              have t3 : M ≠ N := Ne.symm t2
              obtain ⟨z, ez⟩ : ∃ z, RowKit.wrap64 (p.u - c2) = z := ⟨_, rfl⟩
              go_wp2_with fail
              go_meet
              exact ⟨1, _, _, _, _, p, _, _, rfl, rfl, rfl, Lib.hid ⟨H5.out.putB (j := 1) (q' := ⟨p.l, z, p.g⟩) (x := z) (by omega) rfl (by rw [← ez]; exact Below.refl _ _), HFM.out, by have := hlen.out; omega, HO.out.2.1, (fun h => by cases h), fun _ => rfl⟩⟩
            · have h1 : c2 > p.u := by omega
              have h1' : p.u < c2 := h1
              go_wp2_with fail
              refine CC.out.mono ?_; rintro e w5 ⟨rfl, hb⟩
              have H5 := Lib.hid (HG.out.below hb)
              clear hb CC n0
              have n0 := H5.out.call.2.2
              rw [HD.out.1] at n0
              obtain ⟨a0, a1, a2, _, _, _⟩ := H5.out.pa.pv
              obtain ⟨y0, y1, y2, z0, z1, z2⟩ := H5.out.pb.pv
              have t1 : C ≠ M := fun e => by have h1 := H5.out.pc; have h2 := H5.out.pb; rw [e] at h1; unfold PB at h2; rw [h1] at h2; simp at h2
              have t2 : N ≠ M := H5.out.ne
              have t3 : M ≠ N := Ne.symm t2
              obtain ⟨z, ez⟩ : ∃ z, RowKit.wrap64 (p.u - c2) = z := ⟨_, rfl⟩
              go_wp2_with fail
              go_meet
              exact ⟨1, _, _, _, _, p, _, _, rfl, rfl, rfl, Lib.hid ⟨H5.out.putB (j := 1) (q' := ⟨p.l, z, p.g⟩) (x := z) (by omega) rfl (by rw [← ez]; exact Below.refl _ _), HFM.out, by have := hlen.out; omega, HO.out.2.1, (fun h => by cases h), fun _ => rfl⟩⟩
          · have h1 : ¬ c2 < 0 := by omega
            have h2 : ¬ c2 > p.u := by omega
            have h2' : ¬ p.u < c2 := by omega
            have CC := Lib.hid (back_ok c2 HO.out.1 HPV.out (by omega))
            have hq : Hid ((⟨p.l, p.u - c2, p.g⟩ : Pu).ok ∧ RowKit.wrap64 (p.u - c2) = p.u - c2) := Lib.hid (by
              have hk := HO.out.1
              unfold Pu.ok Ok at *
              refine ⟨?_, by unfold RowKit.wrap64; omega⟩
              show 0 ≤ p.u - c2 ∧ 0 ≤ p.g ∧ p.u - c2 + p.g ≤ p.l ∧ p.l ≤ _
              omega)
            clear h0
            go_wp2_with fail
            refine CC.out.mono ?_; rintro e w5 ⟨rfl, hb⟩
            have H5 := Lib.hid (HG.out.put (j := 1) (q' := ⟨p.l, p.u - c2, p.g⟩) (x := p.u - c2) HO.out.2.1 (by omega) rfl hb)
            clear hb CC n0
            have n0 := H5.out.call.2.2
            rw [HD.out.1] at n0
            obtain ⟨a0, a1, a2, _, _, _⟩ := H5.out.pa.pv
            obtain ⟨y0, y1, y2, z0, z1, z2⟩ := H5.out.pb.pv
            have t1 : C ≠ M := fun e => by have h1 := H5.out.pc; have h2 := H5.out.pb; rw [e] at h1; unfold PB at h2; rw [h1] at h2; simp at h2
            have t2 : N ≠ M := H5.out.ne
            have t3 : M ≠ N := Ne.symm t2
            obtain ⟨z, ez⟩ : ∃ z, RowKit.wrap64 (p.u - c2) = z := ⟨_, rfl⟩
            have hzz : Hid (z = p.u - c2) := Lib.hid (ez.symm.trans hq.out.2)
            go_wp2_with fail
            go_meet
            exact ⟨0, _, _, _, _, ⟨p.l, p.u - c2, p.g⟩, _, _, rfl, rfl, rfl, Lib.hid ⟨H5.out.putB (j := 1) (q' := ⟨p.l, p.u - c2, p.g⟩) (x := p.u - c2) (by omega) rfl (by rw [← hzz.out, ← ez]; exact Below.refl _ _), HFM.out.used HO.out.2.1 hq.out.1 rfl rfl, by rw [List.length_set]; have := hlen.out; omega, by rw [List.getElem?_set, if_pos rfl, if_pos (List.getElem?_eq_some_iff.1 HO.out.2.1).1], fun _ => rfl, fun h => absurd rfl h⟩⟩
        · as_aux_lemma =>
          have b0 := below_alloc1 W4 (Obj.cells #[.int .i64 0, .int .i64 0, .int .i64 0] 26)
          have hpv0 := HPV.out.below b0
          have s4 : C < W4.heap.size := (Array.getElem?_eq_some_iff.1 HG.out.pc).1
          by_cases h0 : c2 < 0 ∨ c2 > r
          · by_cases h00 : c2 < 0
            · have et : Hid (tk p.l p.u p.g c2 = 1) := Lib.hid (by unfold tk; rw [if_pos h00])
              have CC := Lib.hid (give_bad c2 HO.out.1 hpv0 (by rw [et.out]; omega))
              rw [et.out] at CC
              clear et hpv0
              go_wp2_with fail
              refine CC.out.mono ?_; rintro e w6 ⟨rfl, hb⟩
              have HB := Lib.hid hb
              have hz6 : w6.heap[W4.heap.size]? = some (Obj.cells #[.int .i64 0, .int .i64 0, .int .i64 0] 26) := (hb.block _ (by rw [World.size_alloc]; omega)).trans (heap_alloc_new W4 _)
              have nz := (show PB w6 W4.heap.size ⟨0, 0, 0⟩ from hz6).pv
              obtain ⟨nz0, nz1, nz2, nf0, nf1, nf2⟩ := nz
              have h6n : PB (set3 w6 W4.heap.size (.int .i64 0) (.int .i64 0) (.int .i64 0)) W4.heap.size ⟨0, 0, 0⟩ := set3_heap hz6 (.int .i64 0) (.int .i64 0) (.int .i64 0)
              have h6 := HG.out.below (set3_below (b0.trans (hb.mono (by rw [World.size_alloc]; omega))) (Nat.le_refl _) (.int .i64 0) (.int .i64 0) (.int .i64 0))
              clear hb hz6
              go_upto_region 33 with fail
              obtain ⟨W7, eW7⟩ : ∃ W7, set3 w6 W4.heap.size (.int .i64 0) (.int .i64 0) (.int .i64 0) = W7 := ⟨_, rfl⟩
              obtain ⟨N3, eN3⟩ : ∃ N3, W4.heap.size = N3 := ⟨_, rfl⟩
              rw [eN3] at h6 h6n eW7
              have HNM : Hid (N3 ≠ M) := Lib.hid (by have := HG.out.pb.lt; omega)
              have HNB : Hid (N3 ≠ B) := Lib.hid (by have := HPV.out.lt; omega)
              rw [eN3]
              unfold set3 at eW7
              have HN3 := Lib.hid (show PB W7 N3 ⟨0, 0, 0⟩ from by rw [← eW7]; exact h6n)
              have H7 := Lib.hid (show GS w F _ _ _ _ ps us N M C p p d W7 from by rw [← eW7]; exact h6)
              rw [eW7]
              clear h6 h6n eW7 n0 nz0 nz1 nz2 nf0 nf1 nf2
              have n0 := H7.out.call.2.2
              rw [HD.out.1] at n0
              obtain ⟨a0, a1, a2, _, _, _⟩ := H7.out.pa.pv
              obtain ⟨y0, y1, y2, z0, z1, z2⟩ := H7.out.pb.pv
              have t1 : C ≠ M := fun e => by have h1 := H7.out.pc; have h2 := H7.out.pb; rw [e] at h1; unfold PB at h2; rw [h1] at h2; simp at h2
              have t2 : N ≠ M := H7.out.ne
              have t3 : M ≠ N := Ne.symm t2
              obtain ⟨z, ez⟩ : ∃ z, RowKit.wrap64 (p.g + c2) = z := ⟨_, rfl⟩
              have h8 := H7.out.putB (j := 2) (q' := ⟨p.l, p.u, z⟩) (x := z) (by omega) rfl (Below.refl _ _)
              have h8n := HN3.out.other (Below.refl _ (W7.setCell ⟨M, 2, none⟩ (.int .i64 z))) HNM.out
              go_upto_region 38 with fail
              obtain ⟨W8, eW8⟩ : ∃ W8, W7.setCell ⟨M, 2, none⟩ (.int .i64 z) = W8 := ⟨_, rfl⟩
              rw [eW8] at h8 h8n
              have H8 := Lib.hid h8
              have H8N := Lib.hid h8n
              rw [eW8]
              clear eW8 h8 h8n H7 HN3 a0 a1 a2 y0 y1 y2 z0 z1 z2 n0 t1 t2 t3
              have n0 := H8.out.call.2.2
              rw [HD.out.1] at n0
              obtain ⟨q0, q1, q2, _, _, _⟩ := H8N.out.pv
              go_wp2_with fail
              go_meet
              exact ⟨1, _, _, _, _, p, _, _, rfl, rfl, rfl, Lib.hid ⟨H8.out, HFM.out, by have := hlen.out; omega, HO.out.2.1, (fun h => by cases h), fun _ => rfl⟩⟩
            · have et : Hid (tk p.l p.u p.g c2 = 5) := Lib.hid (tk5 (by omega) (by have := HO.out.2.2; omega))
              have CC := Lib.hid (give_bad c2 HO.out.1 hpv0 (by rw [et.out]; omega))
              rw [et.out] at CC
              have h1 : c2 > r := by omega
              have h1' : r < c2 := h1
              clear et hpv0
              go_wp2_with fail
              refine CC.out.mono ?_; rintro e w6 ⟨rfl, hb⟩
              have HB := Lib.hid hb
              have hz6 : w6.heap[W4.heap.size]? = some (Obj.cells #[.int .i64 0, .int .i64 0, .int .i64 0] 26) := (hb.block _ (by rw [World.size_alloc]; omega)).trans (heap_alloc_new W4 _)
              have nz := (show PB w6 W4.heap.size ⟨0, 0, 0⟩ from hz6).pv
              obtain ⟨nz0, nz1, nz2, nf0, nf1, nf2⟩ := nz
              have h6n : PB (set3 w6 W4.heap.size (.int .i64 0) (.int .i64 0) (.int .i64 0)) W4.heap.size ⟨0, 0, 0⟩ := set3_heap hz6 (.int .i64 0) (.int .i64 0) (.int .i64 0)
              have h6 := HG.out.below (set3_below (b0.trans (hb.mono (by rw [World.size_alloc]; omega))) (Nat.le_refl _) (.int .i64 0) (.int .i64 0) (.int .i64 0))
              clear hb hz6
              go_upto_region 33 with fail
              obtain ⟨W7, eW7⟩ : ∃ W7, set3 w6 W4.heap.size (.int .i64 0) (.int .i64 0) (.int .i64 0) = W7 := ⟨_, rfl⟩
              obtain ⟨N3, eN3⟩ : ∃ N3, W4.heap.size = N3 := ⟨_, rfl⟩
              rw [eN3] at h6 h6n eW7
              have HNM : Hid (N3 ≠ M) := Lib.hid (by have := HG.out.pb.lt; omega)
              have HNB : Hid (N3 ≠ B) := Lib.hid (by have := HPV.out.lt; omega)
              rw [eN3]
              unfold set3 at eW7
              have HN3 := Lib.hid (show PB W7 N3 ⟨0, 0, 0⟩ from by rw [← eW7]; exact h6n)
              have H7 := Lib.hid (show GS w F _ _ _ _ ps us N M C p p d W7 from by rw [← eW7]; exact h6)
              rw [eW7]
              clear h6 h6n eW7 n0 nz0 nz1 nz2 nf0 nf1 nf2
              have n0 := H7.out.call.2.2
              rw [HD.out.1] at n0
              obtain ⟨a0, a1, a2, _, _, _⟩ := H7.out.pa.pv
              obtain ⟨y0, y1, y2, z0, z1, z2⟩ := H7.out.pb.pv
              have t1 : C ≠ M := fun e => by have h1 := H7.out.pc; have h2 := H7.out.pb; rw [e] at h1; unfold PB at h2; rw [h1] at h2; simp at h2
              have t2 : N ≠ M := H7.out.ne
              have t3 : M ≠ N := Ne.symm t2
              obtain ⟨z, ez⟩ : ∃ z, RowKit.wrap64 (p.g + c2) = z := ⟨_, rfl⟩
              have h8 := H7.out.putB (j := 2) (q' := ⟨p.l, p.u, z⟩) (x := z) (by omega) rfl (Below.refl _ _)
              have h8n := HN3.out.other (Below.refl _ (W7.setCell ⟨M, 2, none⟩ (.int .i64 z))) HNM.out
              go_upto_region 38 with fail
              obtain ⟨W8, eW8⟩ : ∃ W8, W7.setCell ⟨M, 2, none⟩ (.int .i64 z) = W8 := ⟨_, rfl⟩
              rw [eW8] at h8 h8n
              have H8 := Lib.hid h8
              have H8N := Lib.hid h8n
              rw [eW8]
              clear eW8 h8 h8n H7 HN3 a0 a1 a2 y0 y1 y2 z0 z1 z2 n0 t1 t2 t3
              have n0 := H8.out.call.2.2
              rw [HD.out.1] at n0
              obtain ⟨q0, q1, q2, _, _, _⟩ := H8N.out.pv
              go_wp2_with fail
              go_meet
              exact ⟨5, _, _, _, _, p, _, _, rfl, rfl, rfl, Lib.hid ⟨H8.out, HFM.out, by have := hlen.out; omega, HO.out.2.1, (fun h => by cases h), fun _ => rfl⟩⟩
          · have et : tk p.l p.u p.g c2 = 0 := tk0 (by omega) (by have := HO.out.2.2; omega)
            have CC := Lib.hid (give_ok c2 HO.out.1 hpv0 et)
            have hsum := (tk_sum HO.out.1 et).2
            have HSU := Lib.hid hsum
            have hn1 : ¬ c2 < 0 := by omega
            have hn2 : ¬ c2 > r := by omega
            have hn2' : ¬ r < c2 := by omega
            have HC := Lib.hid (And.intro hn1 hn2)
            clear et hsum h0 hpv0
            go_wp2_with fail
            refine CC.out.mono ?_; rintro e w6 ⟨rfl, hb⟩
            have HB := Lib.hid hb
            have hz6 : w6.heap[W4.heap.size]? = some (Obj.cells #[.int .i64 0, .int .i64 0, .int .i64 0] 26) := (hb.block _ (by rw [World.size_alloc]; omega)).trans ((heap_setCell_other _ _ _ _ (show W4.heap.size ≠ B from by have := HPV.out.lt; omega)).trans (heap_alloc_new W4 _))
            have nz := (show PB w6 W4.heap.size ⟨0, 0, 0⟩ from hz6).pv
            obtain ⟨nz0, nz1, nz2, nf0, nf1, nf2⟩ := nz
            have h6n : PB (set3 w6 W4.heap.size (.int .i64 c2) (.int .i64 0) (.int .i64 0)) W4.heap.size ⟨c2, 0, 0⟩ := set3_heap hz6 (.int .i64 c2) (.int .i64 0) (.int .i64 0)
            have h6 := HG.out.put (j := 2) (q' := ⟨p.l, p.u, p.g + c2⟩) (x := p.g + c2) HO.out.2.1 (by omega) rfl (set3_below ((below_both b0 _ _).trans (hb.mono (by rw [World.size_alloc]; omega))) (Nat.le_refl _) (.int .i64 c2) (.int .i64 0) (.int .i64 0))
            clear hb hz6
            go_upto_region 33 with fail
            obtain ⟨W7, eW7⟩ : ∃ W7, set3 w6 W4.heap.size (.int .i64 c2) (.int .i64 0) (.int .i64 0) = W7 := ⟨_, rfl⟩
            obtain ⟨N3, eN3⟩ : ∃ N3, W4.heap.size = N3 := ⟨_, rfl⟩
            rw [eN3] at h6 h6n eW7
            have HNM : Hid (N3 ≠ M) := Lib.hid (by have := HG.out.pb.lt; omega)
            have HNB : Hid (N3 ≠ B) := Lib.hid (by have := HPV.out.lt; omega)
            rw [eN3]
            unfold set3 at eW7
            have HN3 := Lib.hid (show PB W7 N3 ⟨c2, 0, 0⟩ from by rw [← eW7]; exact h6n)
            have H7 := Lib.hid (show GS w F _ _ _ _ (ps.set i ⟨p.l, p.u, p.g + c2⟩) us N M C p p d W7 from by rw [← eW7]; exact h6)
            rw [eW7]
            clear h6 h6n eW7 n0 nz0 nz1 nz2 nf0 nf1 nf2
            have n0 := H7.out.call.2.2
            rw [HD.out.1] at n0
            obtain ⟨a0, a1, a2, _, _, _⟩ := H7.out.pa.pv
            obtain ⟨y0, y1, y2, z0, z1, z2⟩ := H7.out.pb.pv
            have t1 : C ≠ M := fun e => by have h1 := H7.out.pc; have h2 := H7.out.pb; rw [e] at h1; unfold PB at h2; rw [h1] at h2; simp at h2
            have t2 : N ≠ M := H7.out.ne
            have t3 : M ≠ N := Ne.symm t2
            obtain ⟨z, ez⟩ : ∃ z, RowKit.wrap64 (p.g + c2) = z := ⟨_, rfl⟩
            have h8 := H7.out.putB (j := 2) (q' := ⟨p.l, p.u, z⟩) (x := z) (by omega) rfl (Below.refl _ _)
            have h8n := HN3.out.other (Below.refl _ (W7.setCell ⟨M, 2, none⟩ (.int .i64 z))) HNM.out
            go_upto_region 38 with fail
            obtain ⟨W8, eW8⟩ : ∃ W8, W7.setCell ⟨M, 2, none⟩ (.int .i64 z) = W8 := ⟨_, rfl⟩
            rw [eW8] at h8 h8n
            have H8 := Lib.hid h8
            have H8N := Lib.hid h8n
            rw [eW8]
            clear eW8 h8 h8n H7 HN3 a0 a1 a2 y0 y1 y2 z0 z1 z2 n0 t1 t2 t3
            have n0 := H8.out.call.2.2
            rw [HD.out.1] at n0
            obtain ⟨q0, q1, q2, _, _, _⟩ := H8N.out.pv
            have HZ : Hid (z = p.g + c2) := Lib.hid (ez.symm.trans HSU.out)
            rw [← HZ.out] at H8
            go_upto_region 41 with fail
            have HHL := Lib.hid (And.intro HZ.out HC.out)
            have HGV := Lib.hid (HFM.out.gave (n := c2) HO.out.2.1 (by have := HO.out.2.2; have := HC.out; omega))
            rw [← HZ.out] at HGV
            have HLEN : Hid ((ps.set i ⟨p.l, p.u, z⟩).length = m ∧ us.length = m) := Lib.hid ⟨by rw [List.length_set]; exact hlen.out.1, by rw [← HFM.out.len]; exact hlen.out.1⟩
            have HGET : Hid ((ps.set i ⟨p.l, p.u, z⟩ ++ [⟨c2, 0, 0⟩])[i]? = some ⟨p.l, p.u, z⟩) := Lib.hid (by rw [List.getElem?_append_left (by rw [HLEN.out.1]; omega), List.getElem?_set, if_pos rfl, if_pos (List.getElem?_eq_some_iff.1 HO.out.2.1).1])
            have hX : ∀ oo nn cc, (.slice (some ⟨B, o, none⟩) m c1 : Value) ≠ .slice (some ⟨N3, oo, none⟩) nn cc := fun oo nn cc e => by
              injection e with e1
              injection e1 with e1
              injection e1 with e1
              exact HNB.out e1.symm
            have HX3 := Lib.hid hX
            clear hX n0 q0 q1 q2 HSU ez
            obtain ⟨W9, eW9⟩ : ∃ W9, W8.drew = W9 := ⟨_, rfl⟩
            have H9 : Hid (GS w F (.slice (some ⟨B, o, none⟩) m c1) v2 (.slice (some ⟨B, o, none⟩) m c1) v2 (ps.set i ⟨p.l, p.u, z⟩) us N M C p ⟨p.l, p.u, z⟩ d W9 ∧ PB W9 N3 ⟨c2, 0, 0⟩) := Lib.hid (by rw [← eW9]; exact ⟨H8.out.drew, H8N.out⟩)
            obtain ⟨Wa0, eWa0⟩ : ∃ Wa0, W9.alloc (Obj.cells #[.int .i64 c2, .int .i64 0, .int .i64 0] 26) = Wa0 := ⟨_, rfl⟩
            have bWa0 : Below W9.heap.size W9 Wa0 := by rw [← eWa0]; exact below_alloc1 _ _
            have rWa0 : Wa0.heap[W9.heap.size]? = some (Obj.cells #[.int .i64 c2, .int .i64 0, .int .i64 0] 26) := by rw [← eWa0]; exact heap_alloc_new _ _
            have HWa0 := And.intro (H9.out.1.below bWa0) (H9.out.2.below bWa0)
            obtain ⟨vWa1, Wa1, runWa1, gWa1, kWa1, nWa1⟩ := HWa0.1.app1 (a := W9.heap.size) (X := N3) (g := ⟨c2, 0, 0⟩) HX3.out (show PB Wa0 W9.heap.size ⟨c2, 0, 0⟩ from rWa0) (by rw [HLEN.out.1]; have := hlen.out; omega)
            have HWa1 := And.intro gWa1 (nWa1 _ HWa0.2)
            obtain ⟨Wa2, eWa2⟩ : ∃ Wa2, Wa1.alloc (Obj.cells #[.int .i64 (i : Int)] 3) = Wa2 := ⟨_, rfl⟩
            have bWa2 : Below Wa1.heap.size Wa1 Wa2 := by rw [← eWa2]; exact below_alloc1 _ _
            have rWa2 : Wa2.heap[Wa1.heap.size]? = some (Obj.cells #[.int .i64 (i : Int)] 3) := by rw [← eWa2]; exact heap_alloc_new _ _
            have HWa2 := And.intro (HWa1.1.below bWa2) (HWa1.2.below bWa2)
            obtain ⟨vWa3, Wa3, runWa3, gWa3, kWa3⟩ := HWa2.1.app2 (a := Wa1.heap.size) (g := (i : Int)) rWa2 (by rw [HLEN.out.2]; have := hlen.out; omega)
            have HWa3 := And.intro gWa3 (show PB Wa3 N3 ⟨c2, 0, 0⟩ from kWa3 _ _ HWa2.2 (fun cur e => by simp at e))
            obtain ⟨Wb1, eWb1⟩ : ∃ Wb1, Wa0.alloc (Obj.cells #[.int .i64 (i : Int)] 3) = Wb1 := ⟨_, rfl⟩
            have bWb1 : Below Wa0.heap.size Wa0 Wb1 := by rw [← eWb1]; exact below_alloc1 _ _
            have rWb1 : Wb1.heap[Wa0.heap.size]? = some (Obj.cells #[.int .i64 (i : Int)] 3) := by rw [← eWb1]; exact heap_alloc_new _ _
            have HWb1 := And.intro (HWa0.1.below bWb1) (HWa0.2.below bWb1)
            obtain ⟨vWb2, Wb2, runWb2, gWb2, kWb2, nWb2⟩ := HWb1.1.app1 (a := W9.heap.size) (X := N3) (g := ⟨c2, 0, 0⟩) HX3.out (PB.below (show PB Wa0 W9.heap.size ⟨c2, 0, 0⟩ from rWa0) bWb1) (by rw [HLEN.out.1]; have := hlen.out; omega)
            have HWb2 := And.intro gWb2 (nWb2 _ HWb1.2)
            obtain ⟨vWb3, Wb3, runWb3, gWb3, kWb3⟩ := HWb2.1.app2 (a := Wa0.heap.size) (g := (i : Int)) (kWb2 _ _ rWb1 (fun cur e => by simp at e)) (by rw [HLEN.out.2]; have := hlen.out; omega)
            have HWb3 := And.intro gWb3 (show PB Wb3 N3 ⟨c2, 0, 0⟩ from kWb3 _ _ HWb2.2 (fun cur e => by simp at e))
            obtain ⟨Wc0, eWc0⟩ : ∃ Wc0, W9.alloc (Obj.cells #[.int .i64 (i : Int)] 3) = Wc0 := ⟨_, rfl⟩
            have bWc0 : Below W9.heap.size W9 Wc0 := by rw [← eWc0]; exact below_alloc1 _ _
            have rWc0 : Wc0.heap[W9.heap.size]? = some (Obj.cells #[.int .i64 (i : Int)] 3) := by rw [← eWc0]; exact heap_alloc_new _ _
            have HWc0 := And.intro (H9.out.1.below bWc0) (H9.out.2.below bWc0)
            obtain ⟨Wc1, eWc1⟩ : ∃ Wc1, Wc0.alloc (Obj.cells #[.int .i64 c2, .int .i64 0, .int .i64 0] 26) = Wc1 := ⟨_, rfl⟩
            have bWc1 : Below Wc0.heap.size Wc0 Wc1 := by rw [← eWc1]; exact below_alloc1 _ _
            have rWc1 : Wc1.heap[Wc0.heap.size]? = some (Obj.cells #[.int .i64 c2, .int .i64 0, .int .i64 0] 26) := by rw [← eWc1]; exact heap_alloc_new _ _
            have HWc1 := And.intro (HWc0.1.below bWc1) (HWc0.2.below bWc1)
            obtain ⟨vWc2, Wc2, runWc2, gWc2, kWc2, nWc2⟩ := HWc1.1.app1 (a := Wc0.heap.size) (X := N3) (g := ⟨c2, 0, 0⟩) HX3.out (show PB Wc1 Wc0.heap.size ⟨c2, 0, 0⟩ from rWc1) (by rw [HLEN.out.1]; have := hlen.out; omega)
            have HWc2 := And.intro gWc2 (nWc2 _ HWc1.2)
            obtain ⟨vWc3, Wc3, runWc3, gWc3, kWc3⟩ := HWc2.1.app2 (a := W9.heap.size) (g := (i : Int)) (kWc2 _ _ ((bWc1.block _ (Array.getElem?_eq_some_iff.1 rWc0).1).trans rWc0) (fun cur e => by simp at e)) (by rw [HLEN.out.2]; have := hlen.out; omega)
            have HWc3 := And.intro gWc3 (show PB Wc3 N3 ⟨c2, 0, 0⟩ from kWc3 _ _ HWc2.2 (fun cur e => by simp at e))
            have SWa0 := Lib.hid (And.intro HWa0.1.f HWa0.2)
            have SWa1 := Lib.hid (And.intro HWa1.1.f HWa1.2)
            have SWa2 := Lib.hid (And.intro HWa2.1.f HWa2.2)
            have SWa3 := Lib.hid (And.intro HWa3.1.f HWa3.2)
            have SWb1 := Lib.hid (And.intro HWb1.1.f HWb1.2)
            have SWb2 := Lib.hid (And.intro HWb2.1.f HWb2.2)
            have SWb3 := Lib.hid (And.intro HWb3.1.f HWb3.2)
            have SWc0 := Lib.hid (And.intro HWc0.1.f HWc0.2)
            have SWc1 := Lib.hid (And.intro HWc1.1.f HWc1.2)
            have SWc2 := Lib.hid (And.intro HWc2.1.f HWc2.2)
            have SWc3 := Lib.hid (And.intro HWc3.1.f HWc3.2)
            have RWa1 := Lib.hid runWa1
            have RWa3 := Lib.hid runWa3
            have RWb2 := Lib.hid runWb2
            have RWb3 := Lib.hid runWb3
            have RWc2 := Lib.hid runWc2
            have RWc3 := Lib.hid runWc3
            have GWa3 := Lib.hid HWa3.1
            have FWa3 := Lib.hid HWa3.1.store
            have GWb3 := Lib.hid HWb3.1
            have FWb3 := Lib.hid HWb3.1.store
            have GWc3 := Lib.hid HWc3.1
            have FWc3 := Lib.hid HWc3.1.store
            have EWa0 := Lib.hid eWa0
            have EWb1 := Lib.hid eWb1
            have EWa2 := Lib.hid eWa2
            have EWc0 := Lib.hid eWc0
            have EWc1 := Lib.hid eWc1
            clear eWa0 bWa0 rWa0 eWa2 bWa2 rWa2 eWb1 bWb1 rWb1 eWc0 bWc0 rWc0 eWc1 bWc1 rWc1 runWa1 gWa1 kWa1 runWa3 gWa3 kWa3 runWb2 gWb2 kWb2 runWb3 gWb3 kWb3 runWc2 gWc2 kWc2 runWc3 gWc3 kWc3 nWa1 nWb2 nWc2 HWa0 HWa1 HWa2 HWa3 HWb1 HWb2 HWb3 HWc0 HWc1 HWc2 HWc3
            refine region_AU (Z := fun j => !(j == 5 || j == 6 || j == 7 || j == 8 || j == 12 || j == 14 || j == 15)) (S := (fun W => W.heap[F]? = some (Obj.cells #[.slice (some ⟨B, o, none⟩) m c1, v2] 30) ∧ PB W N3 ⟨c2, 0, 0⟩)) (by kernel_rfl) (by rw [eW9]; exact ⟨H9.out.1.f, H9.out.2⟩) (fun hHeld => ?_)
            rw [eW9] at hHeld ⊢
            clear eW9
            refine AUP_take (i := 0) (oi := _) (v := ?vw0) rfl rfl (by kernel_rfl) (by kernel_rfl) (by kernel_rfl) (fun _ _ _ h => h) (Or.inl ⟨by rfl, ?hz0⟩) ?rst0
            case hz0 => (intro wS hSw; go_simp; try with_reducible rfl)
            simp only [Act.put, List.getElem_toArray, List.getElem_cons_zero, List.getElem_cons_succ, List.setIfInBounds_toArray, List.set_cons_zero, List.set_cons_succ]
            refine AUP_take (i := 1) (oi := _) (v := ?vw1) rfl rfl (by kernel_rfl) (by kernel_rfl) (by kernel_rfl) (fun _ _ _ h => h) (Or.inl ⟨by rfl, ?hz1⟩) ?rst1
            case hz1 => (intro wS hSw; go_simp; try with_reducible rfl)
            simp only [Act.put, List.getElem_toArray, List.getElem_cons_zero, List.getElem_cons_succ, List.setIfInBounds_toArray, List.set_cons_zero, List.set_cons_succ]
            refine AUP_take (i := 2) (oi := _) (v := ?vw2) rfl rfl (by kernel_rfl) (by kernel_rfl) (by kernel_rfl) (fun _ _ _ h => h) (Or.inl ⟨by rfl, ?hz2⟩) ?rst2
            case hz2 => (intro wS hSw; go_simp; try with_reducible rfl)
            simp only [Act.put, List.getElem_toArray, List.getElem_cons_zero, List.getElem_cons_succ, List.setIfInBounds_toArray, List.set_cons_zero, List.set_cons_succ]
            refine AUP_take (i := 3) (oi := _) (v := ?vw3) rfl rfl (by kernel_rfl) (by kernel_rfl) (by kernel_rfl) (fun _ _ _ h => h) (Or.inl ⟨by rfl, ?hz3⟩) ?rst3
            case hz3 => (intro wS hSw; go_simp; try with_reducible rfl)
            simp only [Act.put, List.getElem_toArray, List.getElem_cons_zero, List.getElem_cons_succ, List.setIfInBounds_toArray, List.set_cons_zero, List.set_cons_succ]
            refine AUP_take (i := 4) (oi := _) (v := ?vw4) rfl rfl (by kernel_rfl) (by kernel_rfl) (by kernel_rfl) (fun _ _ _ h => h) (Or.inl ⟨by rfl, ?hz4⟩) ?rst4
            case hz4 => (intro wS hSw; go_simp; try with_reducible rfl)
            simp only [Act.put, List.getElem_toArray, List.getElem_cons_zero, List.getElem_cons_succ, List.setIfInBounds_toArray, List.set_cons_zero, List.set_cons_succ]
            refine AUP_take (i := 9) (oi := _) (v := ?vw9) rfl rfl (by kernel_rfl) (by kernel_rfl) (by kernel_rfl) (fun _ _ _ h => h) (Or.inl ⟨by rfl, ?hz9⟩) ?rst9
            case hz9 => (intro wS hSw; go_simp; try with_reducible rfl)
            simp only [Act.put, List.getElem_toArray, List.getElem_cons_zero, List.getElem_cons_succ, List.setIfInBounds_toArray, List.set_cons_zero, List.set_cons_succ]
            refine AUP_take (i := 10) (oi := _) (v := ?vw10) rfl rfl (by kernel_rfl) (by kernel_rfl) (by kernel_rfl) (fun _ _ _ h => h) (Or.inl ⟨by rfl, ?hz10⟩) ?rst10
            case hz10 => (intro wS hSw; go_simp; try with_reducible rfl)
            simp only [Act.put, List.getElem_toArray, List.getElem_cons_zero, List.getElem_cons_succ, List.setIfInBounds_toArray, List.set_cons_zero, List.set_cons_succ]
            refine AUP_take (i := 11) (oi := _) (v := ?vw11) rfl rfl (by kernel_rfl) (by kernel_rfl) (by kernel_rfl) (fun _ _ _ h => h) (Or.inl ⟨by rfl, ?hz11⟩) ?rst11
            case hz11 => (intro wS hSw; go_simp; try with_reducible rfl)
            simp only [Act.put, List.getElem_toArray, List.getElem_cons_zero, List.getElem_cons_succ, List.setIfInBounds_toArray, List.set_cons_zero, List.set_cons_succ]
            refine AUP_take (i := 13) (oi := _) (v := ?vw13) rfl rfl (by kernel_rfl) (by kernel_rfl) (by kernel_rfl) (fun _ _ _ h => h) (Or.inl ⟨by rfl, ?hz13⟩) ?rst13
            case hz13 => (intro wS hSw; go_simp; try with_reducible rfl)
            simp only [Act.put, List.getElem_toArray, List.getElem_cons_zero, List.getElem_cons_succ, List.setIfInBounds_toArray, List.set_cons_zero, List.set_cons_succ]
            refine AUS_take (by kernel_rfl) rfl (i := 5) (oi := _) (v := ?vw5) rfl (by kernel_rfl) (by kernel_rfl) (by kernel_rfl) (fun _ _ _ h => h) (Or.inl ⟨by rfl, ?hz5⟩) hHeld ?rst5
            case hz5 => (intro wS hSw; have f0 : wS.cell? ⟨F, 0, none⟩ = some (.slice (some ⟨B, o, none⟩) m c1) := (by rw [cell_of_row _ _ 0 _ _ (0, 0) hSw.1]; rfl); clear hSw; go_simp; try with_reducible rfl)
            simp only [Act.put, List.getElem_toArray, List.getElem_cons_zero, List.getElem_cons_succ, List.setIfInBounds_toArray, List.set_cons_zero, List.set_cons_succ]
            refine AUS_take (by kernel_rfl) rfl (i := 12) (oi := _) (v := ?vw12) rfl (by kernel_rfl) (by kernel_rfl) (by kernel_rfl) (fun _ _ _ h => h) (Or.inl ⟨by rfl, ?hz12⟩) hHeld ?rst12
            case hz12 => (intro wS hSw; have f0 : wS.cell? ⟨F, 1, none⟩ = some (v2) := (by rw [cell_of_row _ _ 1 _ _ (0, 0) hSw.1]; rfl); clear hSw; go_simp; try with_reducible rfl)
            simp only [Act.put, List.getElem_toArray, List.getElem_cons_zero, List.getElem_cons_succ, List.setIfInBounds_toArray, List.set_cons_zero, List.set_cons_succ]
            refine AUS_take (by kernel_rfl) rfl (i := 6) (oi := _) (v := ?vw6) rfl (by kernel_rfl) (by kernel_rfl) (by kernel_rfl) (fun _ _ _ h => h) (Or.inl ⟨by rfl, ?hz6⟩) hHeld ?rst6
            case hz6 => (intro wS hSw; obtain ⟨f0, f1, f2, _, _, _⟩ := hSw.2.pv; clear hSw; go_simp; try with_reducible rfl)
            simp only [Act.put, List.getElem_toArray, List.getElem_cons_zero, List.getElem_cons_succ, List.setIfInBounds_toArray, List.set_cons_zero, List.set_cons_succ]
            refine AU_two (i := 7) (j := 14) (oi := _) (oj := _) (by kernel_rfl) rfl rfl (fun K hK => ?_) (fun K hK => ?_)
            · as_aux_lemma =>
              go_simp
              rw [EWa0.out]
              skip
              refine hK.out _ _ (fun _ => SWa0.out) ?_
              clear hK K
              try simp only [Act.put, List.getElem_toArray, List.getElem_cons_zero, List.getElem_cons_succ, List.setIfInBounds_toArray, List.set_cons_zero, List.set_cons_succ]
              refine AU_two (i := 8) (j := 14) (oi := _) (oj := _) (by kernel_rfl) rfl rfl (fun K hK => ?_) (fun K hK => ?_)
              · as_aux_lemma =>
                refine step_append rfl (.tmp 178) (.tmp 180) 27 27 rfl _ _ _ rfl rfl Wa1 RWa1.out ?_
                refine hK.out _ _ (fun _ => SWa1.out) ?_
                clear hK K
                try simp only [Act.put, List.getElem_toArray, List.getElem_cons_zero, List.getElem_cons_succ, List.setIfInBounds_toArray, List.set_cons_zero, List.set_cons_succ]
                refine AU_one (i := 14) (o := _) (by kernel_rfl) rfl (fun K hK => ?_)
                go_simp
                rw [EWa2.out]
                skip
                refine hK.out _ _ (fun _ => SWa2.out) ?_
                clear hK K
                try simp only [Act.put, List.getElem_toArray, List.getElem_cons_zero, List.getElem_cons_succ, List.setIfInBounds_toArray, List.set_cons_zero, List.set_cons_succ]
                refine AU_one (i := 15) (o := _) (by kernel_rfl) rfl (fun K hK => ?_)
                refine step_append rfl (.tmp 185) (.tmp 187) 28 28 rfl _ _ _ rfl rfl Wa3 RWa3.out ?_
                refine hK.out _ _ (fun _ => SWa3.out) ?_
                clear hK K
                try simp only [Act.put, List.getElem_toArray, List.getElem_cons_zero, List.getElem_cons_succ, List.setIfInBounds_toArray, List.set_cons_zero, List.set_cons_succ]
                obtain ⟨Af, lf, cf, rfl⟩ : ∃ A l c, vWa1 = .slice A l c := by obtain ⟨A, c, h, _⟩ := RV.form GWa3.out.r; exact ⟨A, _, c, h⟩
                obtain ⟨Ag, lg, cg, rfl⟩ : ∃ A l c, vWa3 = .slice A l c := by obtain ⟨A, c, h, _⟩ := RW.form GWa3.out.ri; exact ⟨A, _, c, h⟩
                obtain ⟨w0, w1_, w2, w3⟩ := GWa3.out.cells
                refine AU_one (i := 16) (o := _) (by kernel_rfl) rfl (fun K hK => ?_)
                go_simp
                refine hK.out _ _ (fun h => absurd h (by decide)) ?_
                clear hK K
                try simp only [Act.put, List.getElem_toArray, List.getElem_cons_zero, List.getElem_cons_succ, List.setIfInBounds_toArray, List.set_cons_zero, List.set_cons_succ]
                refine AU_one (i := 17) (o := _) (by kernel_rfl) rfl (fun K hK => ?_)
                go_simp
                refine hK.out _ _ (fun h => absurd h (by decide)) ?_
                clear hK K
                try simp only [Act.put, List.getElem_toArray, List.getElem_cons_zero, List.getElem_cons_succ, List.setIfInBounds_toArray, List.set_cons_zero, List.set_cons_succ]
                refine AU_one (i := 18) (o := _) (by kernel_rfl) rfl (fun K hK => ?_)
                go_simp
                refine hK.out _ _ (fun h => absurd h (by decide)) ?_
                clear hK K
                try simp only [Act.put, List.getElem_toArray, List.getElem_cons_zero, List.getElem_cons_succ, List.setIfInBounds_toArray, List.set_cons_zero, List.set_cons_succ]
                refine AU_one (i := 19) (o := _) (by kernel_rfl) rfl (fun K hK => ?_)
                go_simp
                refine hK.out _ _ (fun h => absurd h (by decide)) ?_
                clear hK K
                try simp only [Act.put, List.getElem_toArray, List.getElem_cons_zero, List.getElem_cons_succ, List.setIfInBounds_toArray, List.set_cons_zero, List.set_cons_succ]
                refine AU_one (i := 20) (o := _) (by kernel_rfl) rfl (fun K hK => ?_)
                go_simp
                refine hK.out _ _ (fun h => absurd h (by decide)) ?_
                clear hK K
                try simp only [Act.put, List.getElem_toArray, List.getElem_cons_zero, List.getElem_cons_succ, List.setIfInBounds_toArray, List.set_cons_zero, List.set_cons_succ]
                refine AU_one (i := 21) (o := _) (by kernel_rfl) rfl (fun K hK => ?_)
                go_simp
                refine hK.out _ _ (fun h => absurd h (by decide)) ?_
                clear hK K
                try simp only [Act.put, List.getElem_toArray, List.getElem_cons_zero, List.getElem_cons_succ, List.setIfInBounds_toArray, List.set_cons_zero, List.set_cons_succ]
                refine AU_done (by kernel_rfl) ?_ _
                simp only [OnlyN]
                clear w0 w1_ w2 w3
                go_wp2_with fail
                go_meet
                exact ⟨0, _, _, _, _, ⟨p.l, p.u, z⟩, _, _, rfl, rfl, rfl, Lib.hid ⟨FWa3.out, HGV.out, by rw [List.length_append, HLEN.out.1]; have := hlen.out; simp; omega, HGET.out, fun _ => rfl, fun h => absurd rfl h⟩⟩
              · as_aux_lemma =>
                go_simp
                rw [EWb1.out]
                skip
                refine hK.out _ _ (fun _ => SWb1.out) ?_
                clear hK K
                try simp only [Act.put, List.getElem_toArray, List.getElem_cons_zero, List.getElem_cons_succ, List.setIfInBounds_toArray, List.set_cons_zero, List.set_cons_succ]
                refine AU_one (i := 8) (o := _) (by kernel_rfl) rfl (fun K hK => ?_)
                refine step_append rfl (.tmp 178) (.tmp 180) 27 27 rfl _ _ _ rfl rfl Wb2 RWb2.out ?_
                refine hK.out _ _ (fun _ => SWb2.out) ?_
                clear hK K
                try simp only [Act.put, List.getElem_toArray, List.getElem_cons_zero, List.getElem_cons_succ, List.setIfInBounds_toArray, List.set_cons_zero, List.set_cons_succ]
                refine AU_one (i := 15) (o := _) (by kernel_rfl) rfl (fun K hK => ?_)
                refine step_append rfl (.tmp 185) (.tmp 187) 28 28 rfl _ _ _ rfl rfl Wb3 RWb3.out ?_
                refine hK.out _ _ (fun _ => SWb3.out) ?_
                clear hK K
                try simp only [Act.put, List.getElem_toArray, List.getElem_cons_zero, List.getElem_cons_succ, List.setIfInBounds_toArray, List.set_cons_zero, List.set_cons_succ]
                obtain ⟨Af, lf, cf, rfl⟩ : ∃ A l c, vWb2 = .slice A l c := by obtain ⟨A, c, h, _⟩ := RV.form GWb3.out.r; exact ⟨A, _, c, h⟩
                obtain ⟨Ag, lg, cg, rfl⟩ : ∃ A l c, vWb3 = .slice A l c := by obtain ⟨A, c, h, _⟩ := RW.form GWb3.out.ri; exact ⟨A, _, c, h⟩
                obtain ⟨w0, w1_, w2, w3⟩ := GWb3.out.cells
                refine AU_one (i := 16) (o := _) (by kernel_rfl) rfl (fun K hK => ?_)
                go_simp
                refine hK.out _ _ (fun h => absurd h (by decide)) ?_
                clear hK K
                try simp only [Act.put, List.getElem_toArray, List.getElem_cons_zero, List.getElem_cons_succ, List.setIfInBounds_toArray, List.set_cons_zero, List.set_cons_succ]
                refine AU_one (i := 17) (o := _) (by kernel_rfl) rfl (fun K hK => ?_)
                go_simp
                refine hK.out _ _ (fun h => absurd h (by decide)) ?_
                clear hK K
                try simp only [Act.put, List.getElem_toArray, List.getElem_cons_zero, List.getElem_cons_succ, List.setIfInBounds_toArray, List.set_cons_zero, List.set_cons_succ]
                refine AU_one (i := 18) (o := _) (by kernel_rfl) rfl (fun K hK => ?_)
                go_simp
                refine hK.out _ _ (fun h => absurd h (by decide)) ?_
                clear hK K
                try simp only [Act.put, List.getElem_toArray, List.getElem_cons_zero, List.getElem_cons_succ, List.setIfInBounds_toArray, List.set_cons_zero, List.set_cons_succ]
                refine AU_one (i := 19) (o := _) (by kernel_rfl) rfl (fun K hK => ?_)
                go_simp
                refine hK.out _ _ (fun h => absurd h (by decide)) ?_
                clear hK K
                try simp only [Act.put, List.getElem_toArray, List.getElem_cons_zero, List.getElem_cons_succ, List.setIfInBounds_toArray, List.set_cons_zero, List.set_cons_succ]
                refine AU_one (i := 20) (o := _) (by kernel_rfl) rfl (fun K hK => ?_)
                go_simp
                refine hK.out _ _ (fun h => absurd h (by decide)) ?_
                clear hK K
                try simp only [Act.put, List.getElem_toArray, List.getElem_cons_zero, List.getElem_cons_succ, List.setIfInBounds_toArray, List.set_cons_zero, List.set_cons_succ]
                refine AU_one (i := 21) (o := _) (by kernel_rfl) rfl (fun K hK => ?_)
                go_simp
                refine hK.out _ _ (fun h => absurd h (by decide)) ?_
                clear hK K
                try simp only [Act.put, List.getElem_toArray, List.getElem_cons_zero, List.getElem_cons_succ, List.setIfInBounds_toArray, List.set_cons_zero, List.set_cons_succ]
                refine AU_done (by kernel_rfl) ?_ _
                simp only [OnlyN]
                clear w0 w1_ w2 w3
                go_wp2_with fail
                go_meet
                exact ⟨0, _, _, _, _, ⟨p.l, p.u, z⟩, _, _, rfl, rfl, rfl, Lib.hid ⟨FWb3.out, HGV.out, by rw [List.length_append, HLEN.out.1]; have := hlen.out; simp; omega, HGET.out, fun _ => rfl, fun h => absurd rfl h⟩⟩
            · as_aux_lemma =>
              go_simp
              rw [EWc0.out]
              skip
              refine hK.out _ _ (fun _ => SWc0.out) ?_
              clear hK K
              try simp only [Act.put, List.getElem_toArray, List.getElem_cons_zero, List.getElem_cons_succ, List.setIfInBounds_toArray, List.set_cons_zero, List.set_cons_succ]
              refine AU_one (i := 7) (o := _) (by kernel_rfl) rfl (fun K hK => ?_)
              go_simp
              rw [EWc1.out]
              skip
              refine hK.out _ _ (fun _ => SWc1.out) ?_
              clear hK K
              try simp only [Act.put, List.getElem_toArray, List.getElem_cons_zero, List.getElem_cons_succ, List.setIfInBounds_toArray, List.set_cons_zero, List.set_cons_succ]
              refine AU_one (i := 8) (o := _) (by kernel_rfl) rfl (fun K hK => ?_)
              refine step_append rfl (.tmp 178) (.tmp 180) 27 27 rfl _ _ _ rfl rfl Wc2 RWc2.out ?_
              refine hK.out _ _ (fun _ => SWc2.out) ?_
              clear hK K
              try simp only [Act.put, List.getElem_toArray, List.getElem_cons_zero, List.getElem_cons_succ, List.setIfInBounds_toArray, List.set_cons_zero, List.set_cons_succ]
              refine AU_one (i := 15) (o := _) (by kernel_rfl) rfl (fun K hK => ?_)
              refine step_append rfl (.tmp 185) (.tmp 187) 28 28 rfl _ _ _ rfl rfl Wc3 RWc3.out ?_
              refine hK.out _ _ (fun _ => SWc3.out) ?_
              clear hK K
              try simp only [Act.put, List.getElem_toArray, List.getElem_cons_zero, List.getElem_cons_succ, List.setIfInBounds_toArray, List.set_cons_zero, List.set_cons_succ]
              obtain ⟨Af, lf, cf, rfl⟩ : ∃ A l c, vWc2 = .slice A l c := by obtain ⟨A, c, h, _⟩ := RV.form GWc3.out.r; exact ⟨A, _, c, h⟩
              obtain ⟨Ag, lg, cg, rfl⟩ : ∃ A l c, vWc3 = .slice A l c := by obtain ⟨A, c, h, _⟩ := RW.form GWc3.out.ri; exact ⟨A, _, c, h⟩
              obtain ⟨w0, w1_, w2, w3⟩ := GWc3.out.cells
              refine AU_one (i := 16) (o := _) (by kernel_rfl) rfl (fun K hK => ?_)
              go_simp
              refine hK.out _ _ (fun h => absurd h (by decide)) ?_
              clear hK K
              try simp only [Act.put, List.getElem_toArray, List.getElem_cons_zero, List.getElem_cons_succ, List.setIfInBounds_toArray, List.set_cons_zero, List.set_cons_succ]
              refine AU_one (i := 17) (o := _) (by kernel_rfl) rfl (fun K hK => ?_)
              go_simp
              refine hK.out _ _ (fun h => absurd h (by decide)) ?_
              clear hK K
              try simp only [Act.put, List.getElem_toArray, List.getElem_cons_zero, List.getElem_cons_succ, List.setIfInBounds_toArray, List.set_cons_zero, List.set_cons_succ]
              refine AU_one (i := 18) (o := _) (by kernel_rfl) rfl (fun K hK => ?_)
              go_simp
              refine hK.out _ _ (fun h => absurd h (by decide)) ?_
              clear hK K
              try simp only [Act.put, List.getElem_toArray, List.getElem_cons_zero, List.getElem_cons_succ, List.setIfInBounds_toArray, List.set_cons_zero, List.set_cons_succ]
              refine AU_one (i := 19) (o := _) (by kernel_rfl) rfl (fun K hK => ?_)
              go_simp
              refine hK.out _ _ (fun h => absurd h (by decide)) ?_
              clear hK K
              try simp only [Act.put, List.getElem_toArray, List.getElem_cons_zero, List.getElem_cons_succ, List.setIfInBounds_toArray, List.set_cons_zero, List.set_cons_succ]
              refine AU_one (i := 20) (o := _) (by kernel_rfl) rfl (fun K hK => ?_)
              go_simp
              refine hK.out _ _ (fun h => absurd h (by decide)) ?_
              clear hK K
              try simp only [Act.put, List.getElem_toArray, List.getElem_cons_zero, List.getElem_cons_succ, List.setIfInBounds_toArray, List.set_cons_zero, List.set_cons_succ]
              refine AU_one (i := 21) (o := _) (by kernel_rfl) rfl (fun K hK => ?_)
              go_simp
              refine hK.out _ _ (fun h => absurd h (by decide)) ?_
              clear hK K
              try simp only [Act.put, List.getElem_toArray, List.getElem_cons_zero, List.getElem_cons_succ, List.setIfInBounds_toArray, List.set_cons_zero, List.set_cons_succ]
              refine AU_done (by kernel_rfl) ?_ _
              simp only [OnlyN]
              clear w0 w1_ w2 w3
              go_wp2_with fail
              go_meet
              exact ⟨0, _, _, _, _, ⟨p.l, p.u, z⟩, _, _, rfl, rfl, rfl, Lib.hid ⟨FWc3.out, HGV.out, by rw [List.length_append, HLEN.out.1]; have := hlen.out; simp; omega, HGET.out, fun _ => rfl, fun h => absurd rfl h⟩⟩
        · as_aux_lemma =>
          by_cases h0 : c2 < 0 ∨ p.g < c2
          · have CC := Lib.hid (return_bad c2 HPV.out h0)
            by_cases h00 : c2 < 0
            · go_wp2_with fail
              refine CC.out.mono ?_; rintro e w5 ⟨rfl, hb⟩
              have H5 := Lib.hid (HG.out.below hb)
              clear hb CC n0
              have n0 := H5.out.call.2.2
              rw [HD.out.1] at n0
              obtain ⟨a0, a1, a2, _, _, _⟩ := H5.out.pa.pv
              obtain ⟨y0, y1, y2, z0, z1, z2⟩ := H5.out.pb.pv
              have t1 : C ≠ M := fun e => by have h1 := H5.out.pc; have h2 := H5.out.pb; rw [e] at h1; unfold PB at h2; rw [h1] at h2; simp at h2
              have t2 : N ≠ M := H5.out.ne
              have t3 : M ≠ N := Ne.symm t2
              obtain ⟨z, ez⟩ : ∃ z, RowKit.wrap64 (p.g - c2) = z := ⟨_, rfl⟩
              go_wp2_with fail
              go_meet
              exact ⟨1, _, _, _, _, p, _, _, rfl, rfl, rfl, Lib.hid ⟨H5.out.putB (j := 2) (q' := ⟨p.l, p.u, z⟩) (x := z) (by omega) rfl (by rw [← ez]; exact Below.refl _ _), HFM.out, by have := hlen.out; omega, HO.out.2.1, (fun h => by cases h), fun _ => rfl⟩⟩
            · have h1 : c2 > p.g := by omega
              have h1' : p.g < c2 := h1
              go_wp2_with fail
              refine CC.out.mono ?_; rintro e w5 ⟨rfl, hb⟩
              have H5 := Lib.hid (HG.out.below hb)
              clear hb CC n0
              have n0 := H5.out.call.2.2
              rw [HD.out.1] at n0
              obtain ⟨a0, a1, a2, _, _, _⟩ := H5.out.pa.pv
              obtain ⟨y0, y1, y2, z0, z1, z2⟩ := H5.out.pb.pv
              have t1 : C ≠ M := fun e => by have h1 := H5.out.pc; have h2 := H5.out.pb; rw [e] at h1; unfold PB at h2; rw [h1] at h2; simp at h2
              have t2 : N ≠ M := H5.out.ne
              have t3 : M ≠ N := Ne.symm t2
              obtain ⟨z, ez⟩ : ∃ z, RowKit.wrap64 (p.g - c2) = z := ⟨_, rfl⟩
              go_wp2_with fail
              go_meet
              exact ⟨1, _, _, _, _, p, _, _, rfl, rfl, rfl, Lib.hid ⟨H5.out.putB (j := 2) (q' := ⟨p.l, p.u, z⟩) (x := z) (by omega) rfl (by rw [← ez]; exact Below.refl _ _), HFM.out, by have := hlen.out; omega, HO.out.2.1, (fun h => by cases h), fun _ => rfl⟩⟩
          · have h1 : ¬ c2 < 0 := by omega
            have h2 : ¬ c2 > p.g := by omega
            have h2' : ¬ p.g < c2 := by omega
            have CC := Lib.hid (return_ok c2 HO.out.1 HPV.out (by omega))
            have hq : Hid (RowKit.wrap64 (p.g - c2) = p.g - c2) := Lib.hid (by
              have hk := HO.out.1
              unfold Ok at hk
              unfold RowKit.wrap64; omega)
            clear h0
            go_wp2_with fail
            refine CC.out.mono ?_; rintro e w5 ⟨rfl, hb⟩
            have H5 := Lib.hid (HG.out.put (j := 2) (q' := ⟨p.l, p.u, p.g - c2⟩) (x := p.g - c2) HO.out.2.1 (by omega) rfl hb)
            clear hb CC n0
            have n0 := H5.out.call.2.2
            rw [HD.out.1] at n0
            obtain ⟨a0, a1, a2, _, _, _⟩ := H5.out.pa.pv
            obtain ⟨y0, y1, y2, z0, z1, z2⟩ := H5.out.pb.pv
            have t1 : C ≠ M := fun e => by have h1 := H5.out.pc; have h2 := H5.out.pb; rw [e] at h1; unfold PB at h2; rw [h1] at h2; simp at h2
            have t2 : N ≠ M := H5.out.ne
            have t3 : M ≠ N := Ne.symm t2
            obtain ⟨z, ez⟩ : ∃ z, RowKit.wrap64 (p.g - c2) = z := ⟨_, rfl⟩
            have hzz : Hid (z = p.g - c2) := Lib.hid (ez.symm.trans hq.out)
            rw [← hzz.out] at H5
            have H6 := Lib.hid (H5.out.putB (j := 2) (q' := ⟨p.l, p.u, z⟩) (x := z) (by omega) rfl (Below.refl _ (w5.setCell ⟨M, 2, none⟩ (.int .i64 z))))
            have HK := Lib.hid (show (ps.set i ⟨p.l, p.u, z⟩)[i]? = some ⟨p.l, p.u, z⟩ by rw [List.getElem?_set, if_pos rfl, if_pos (List.getElem?_eq_some_iff.1 HO.out.2.1).1])
            go_upto_region 48 with fail
            obtain ⟨W6, eW6⟩ : ∃ W6, w5.setCell ⟨M, 2, none⟩ (.int .i64 z) = W6 := ⟨_, rfl⟩
            rw [eW6] at H6 ⊢
            clear eW6 H5 a0 a1 a2 y0 y1 y2 z0 z1 z2 n0 ez hzz
            obtain ⟨p0, p1, p2, _, _, _⟩ := (show PV W6 B (o + i * 3) p.l p.u z from H6.out.fs.r.pv HK.out)
            obtain ⟨y0, y1, y2, _, _, _⟩ := (show PV W6 M 0 p.l p.u z from H6.out.pb.pv)
            go_quiet (fail)
            go_wp2_with fail
            go_ret
            exact ⟨by simp, H6.out.b.trans ((below_dN W6 _).mono H6.out.b.size)⟩
        · as_aux_lemma =>
          obtain ⟨n1, n2, _⟩ := HG.out.call
          have CE := Lib.hid (fmove_any (i := i) d.k d.a c2 (by rw [← HD.out.1]; exact HD.out.2) HG.out.fs HFM.out (by have := hlen.out; omega) (by have := hlen.out; omega))
          rw [hlen.out.1] at CE
          go_wp2_with fail
          refine CE.out.mono ?_; rintro e w5 ⟨rfl, ps', h5, hf5, hl5⟩
          have H5 := Lib.hid h5
          have CS := Lib.hid (sound_any h5 hf5 (by have := hlen.out; omega))
          clear h5 hf5 hl5 CE n0 n1 n2
          go_wp2_with fail
          refine CS.out.mono ?_; rintro e w6 ⟨rfl, hb⟩
          have HB6 := Lib.hid (below_up H5.out.b hb)
          clear hb
          go_wp2_with fail
          go_ret
          exact ⟨rfl, HB6.out⟩

      case rest =>
        obtain ⟨ε, v1', v2', ps', us', p', th, wz, rfl, rfl, rfl, HX⟩ := hcut
        clear HG HF HE x1 x2 e6
        have HX2 := Lib.hid (And.intro HX.out.2.1 (And.intro HX.out.2.2.1 HX.out.2.2.2.1))
        go_upto_if 227 with fail
        go_cut [12, 14] (fun vw ve wx => ∃ (W5 : World), W5 = wx ∧ vw = .int .i64 ε ∧ ve = .int .i64 ε ∧ Hid (GS w F v1' v2' v1' v2' ps' us' N M C p p' d W5))
        case first =>
          by_cases hε : ε = 0
          · have HG5 := Lib.hid HX.out.1
            rw [HX.out.2.2.2.2.1 hε] at HG5
            subst hε
            clear HX
            go_wp2_with fail
            go_meet
            exact ⟨_, rfl, rfl, rfl, HG5⟩
          · have HG5 := Lib.hid HX.out.1.back
            obtain rfl := HX.out.2.2.2.2.2 hε
            have hε' : (ε == 0) = false := by simpa using hε
            obtain ⟨a0, a1, a2, _, _, _⟩ := HX.out.1.pa.pv
            obtain ⟨y0, y1, y2, z0, z1, z2⟩ := HX.out.1.pb.pv
            clear HX
            go_wp2_with fail
            go_meet
            exact ⟨_, rfl, rfl, rfl, HG5⟩
        case rest =>
          obtain ⟨W5, rfl, rfl, rfl, HG5⟩ := hcut
          clear HX
          as_aux_lemma =>
            obtain ⟨B', o', c', rfl, hc', hcm', _, _⟩ := HG5.out.fs.r.form HX2.out.1.pos
            obtain ⟨m', em'⟩ : ∃ m', ps'.length = m' := ⟨_, rfl⟩
            have hok' := (HX2.out.1.ok i p' HX2.out.2.2).1
            have hil := (List.getElem?_eq_some_iff.1 HX2.out.2.2).1
            have l2' : (i : Int) < m' := by rw [← em']; omega
            have hcm1' : c' ≤ 9223372036854775807 := hcm'
            have CS := Lib.hid (fun d os => sound_any (HG5.out.fs.below (below_regrown W5 d os)) HX2.out.1 (by have := HX2.out.2.1; omega))
            have CL := Lib.hid (fun W => left_ok (show Ok p'.l p'.u p'.g from hok') W)
            have hleft := (show Ok p'.l p'.u p'.g from hok').left
            obtain ⟨s', es'⟩ : ∃ s', p'.l - p'.u = s' := ⟨_, rfl⟩
            obtain ⟨r', er'⟩ : ∃ r', s' - p'.g = r' := ⟨_, rfl⟩
            rw [es', er'] at hleft CL
            have x1' : IntKind.i64.wrap (p'.l - p'.u) = s' := by have h := hleft.1; simp only [RowKit.wrap64] at h; rw [IntKind.wrap_i64, es']; exact h
            have x2' : IntKind.i64.wrap (s' - p'.g) = r' := by have h := hleft.2; simp only [RowKit.wrap64] at h; rw [IntKind.wrap_i64, er']; exact h
            have QL : Hid (∀ d os, Calls Try.prog 14 #[.agg #[.int .i64 p'.l, .int .i64 p'.u, .int .i64 p'.g]] (Sort.grow (redrawn W5 d) os) fun e w'' => e = .returned (.int .i64 r') ∧ ∃ p : Regrown, w'' = Sort.grow (redrawn W5 p.d) p.os) := Lib.hid (fun d os => Calls.regrown_of (CL.out _))
            have QS : Hid (∀ d os, Calls Try.prog 13 #[.pointer (some ⟨F, 0, none⟩)] (Sort.grow (redrawn W5 d) os) fun e w'' => e = .returned (.bool true) ∧ ∃ p : Regrown, w'' = Sort.grow (redrawn W5 p.d) p.os) := Lib.hid (fun d os => Calls.regrown_of (CS.out d os))
            have hpv := HG5.out.fs.r.pv HX2.out.2.2
            have k0 := cell_regrown HG5.out.cells.1
            rw [em'] at k0 hc'
            have k1 := cell_regrown hpv.c0
            have k2 := cell_regrown hpv.c1
            have k3 := cell_regrown hpv.c2
            have k4 := cell_regrown HG5.out.pb.pv.c0
            have k5 := cell_regrown HG5.out.pb.pv.c1
            have k6 := cell_regrown HG5.out.pb.pv.c2
            clear CS CL hleft es' er' hpv em' hok' hil
            go_upto_region 51 with fail
            refine wp_region_quiet_below (by kernel_rfl) (by kernel_rfl) ?_
            repeat (quiet_step (first | with_reducible exact QL.out _ _ | with_reducible exact QS.out _ _))
            refine wpQuiet_nil ?_
            intro _ hw'
            obtain ⟨⟨dq, osq⟩, hw''⟩ := hw'
            subst hw''
            go_wp2_with fail
            go_roundg (n - (k + 1))
            case rel => exact ⟨k + 1, by omega, rfl, by first | rfl | simp, Lib.hid ⟨_, _, _, _, HG5.out.fs.below (below_regrown W5 dq osq), HX2.out.1, HX2.out.2.1⟩⟩
            case measure => first | omega | (simp; omega)
    · clear hg
      obtain ⟨v1, v2, ps, us, hfs, _⟩ := hI.out
      have HB := Lib.hid hfs.b
      clear hI hfs
      go_wp2_with fail
      go_ret
      exact ⟨rfl, HB.out⟩
end Go.Proofs.Ytmkjdghjaeolcaa
