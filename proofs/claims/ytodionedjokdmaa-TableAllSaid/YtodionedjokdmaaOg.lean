/- Add: the root; what doesn't come in. -/
import Derived.Test.YtodionedjokdmaaOf
set_option linter.unusedVariables false
set_option linter.unusedSimpArgs false
namespace Go.Proofs.Ytodionedjokdmaa
open Go.RowKit
set_option linter.unusedVariables false
set_option linter.unusedSimpArgs false
section
variable {W w w' : World} {T T' : List Nat} {t : Nat} {M : Option Nat} {ns : List Nat} {G : Nat → Option Ob} {n c hm : Nat} {o ho : Ob}
theorem mk_map (w : World) : (Instr.makeMap 90 none).run Try.prog w = .ok (.map (some w.heap.size)) (w.alloc (.map #[] 0)) := by kernel_rfl
/-- A map is made. -/
theorem TS.mkmap (h : TS W T t none ns G w) : TS W T t (some w.heap.size) ns G ((w.alloc (.map #[] 0)).setCell ⟨t, 0, none⟩ (.map (some w.heap.size))) := by
  obtain ⟨rfl, h3⟩ : ns = [] ∧ ∀ n, G n = none := by
    rcases h.mp with ⟨_, h2, h3⟩ | ⟨m, e, _⟩
    · exact ⟨h2, h3⟩
    · cases e
  have hlt := h.lt
  have hb1 := below_alloc1 w (.map #[] 0)
  have e1 : (w.alloc (.map #[] 0)).heap[t]? = some (Obj.cells #[.map none] 92) := (hb1.block t hlt).trans h.tb
  have hm := MapG.new (R := rdP) w
  refine ⟨(h.b.trans (hb1.mono h.b.size)).setCell (p := ⟨t, 0, none⟩) h.ow.1 _, fun b hb => by have := h.tl b hb; simp; omega, ?_, h.ow, .inr ⟨w.heap.size, rfl, own_new h (Nat.le_refl _), ?_⟩, fun n o hn => by rw [h3] at hn; cases hn⟩
  · exact heap_setCell_same _ _ 0 _ _ _ e1
  · have : mpG G = fun _ => none := by funext k; unfold mpG; rw [h3 k]; rfl
    rw [this]
    exact hm.same (heap_setCell_other _ _ _ _ (show w.heap.size ≠ t by omega))
theorem same_mkmap (h : TS W T t none ns G w) : Same T w ((w.alloc (.map #[] 0)).setCell ⟨t, 0, none⟩ (.map (some w.heap.size))) := fun b hb => by
  rw [heap_setCell_other _ _ _ _ (fun e => h.ow.2 (by have e2 : b = t := e; rw [← e2]; exact hb))]
  exact (below_alloc1 w _).block b (h.tl b hb)
theorem OB.mkmap (h : TS W T t none ns G w) {k : Nat} {o : Ob} (ho : OB (own_ W T) w k o) : OB (own_ W T) ((w.alloc (.map #[] 0)).setCell ⟨t, 0, none⟩ (.map (some w.heap.size))) k o := by
  have hb1 := below_alloc1 w (.map #[] 0)
  have e1 : (w.alloc (.map #[] 0)).heap[t]? = some (Obj.cells #[.map none] 92) := (hb1.block t h.lt).trans h.tb
  obtain ⟨h1, h2, ⟨cs, h3, h4, h5, h6, h7, h8, v, h9, h10⟩, h11⟩ := ho.below hb1
  have hne : ∀ b cur u, (w.alloc (.map #[] 0)).heap[b]? = some (Obj.cells cur u) → u ≠ 92 → b ≠ t := fun b cur u hb hu e => by
    rw [e, e1] at hb
    injection hb with hb
    injection hb with _ hb
    exact hu hb.symm
  refine ⟨h1, h2, ⟨cs, (heap_setCell_other _ _ _ _ (hne _ _ _ h3 (by decide))).trans h3, h4, h5, h6, h7, h8, v, h9, h10.keep fun b cur hb hc => ⟨hb, heap_setCell_other _ _ _ _ (hne _ _ _ hc (by decide))⟩⟩, fun b hb => ?_⟩
  obtain ⟨k1, cs', k2, k3⟩ := h11 b hb
  exact ⟨k1, cs', (heap_setCell_other _ _ _ _ (hne _ _ _ k2 (by decide))).trans k2, k3⟩
set_option maxHeartbeats 2000000 in
set_option maxRecDepth 100000 in
/-- The root comes in. -/
theorem add_root (h : TS W T t M ns G w) (hob : OB (own_ W T) w n o) (hG : G n = none) (hc : ctr G o.hm = none) (hns : ns.length ≤ 1000000) (h0 : n = 1) (h1 : o.hm = 0) :
    Calls Try.prog 14 #[.pointer (some ⟨t, 0, none⟩), .pointer (some ⟨o.b, 0, none⟩)] w fun e w' => e = .returned (.bool true) ∧ ∃ M', TS W T t M' (ns ++ [n]) (addG G n o) w' ∧ Same T w w' := by
  obtain ⟨b, kd, hm, ks, th, on⟩ := o
  have CG := Lib.hid (get_any h hob.2.1.1)
  have CC := Lib.hid (cont_any h hob.2.1.2.1)
  simp only at hc h1
  rw [hG, show pb none = .pointer none from rfl] at CG
  rw [show ctr G (Ob.hm ⟨b, kd, hm, ks, th, on⟩) = none from hc, show pb none = .pointer none from rfl] at CC
  obtain ⟨d1, _, d2, _⟩ := hob.cells
  simp only at d1 d2
  unfold inU at d1 d2
  have q0 : ((n : Int) == 0) = false := by rw [h0]; rfl
  have q1 : ((n : Int) != 1) = false := by rw [h0]; rfl
  have q2 : ((hm : Int) != 0) = false := by rw [h1]; rfl
  have HA : addG G n ⟨b, kd, hm, ks, th, on⟩ = updN G n (some ⟨b, kd, hm, ks, th, on⟩) := by unfold addG; rw [hc]
  rw [HA]
  cases M with
  | some m =>
    obtain ⟨w9, hrun9, hT9, hs9⟩ := h.drew.put (hob.below (Below.refl _ _).drew) hG hns
    simp only at hrun9
    have HT := Lib.hid (And.intro hT9 hs9)
    have qm := map_some m w
    have ct := h.cell
    clear h0 h1 hc hT9 hs9 h hob hG HA hns
    go_enter Try.func14, Try.ntmps14
    go_wp2_with fail
    refine CG.out.mono ?_; rintro e w1 ⟨rfl, rfl⟩
    go_wp2_with fail
    refine CC.out.mono ?_; rintro e w2 ⟨rfl, rfl⟩
    clear CG CC
    go_upto_region 10 with fail
    refine wp_region_still_tail 9 (by kernel_rfl) (by kernel_rfl) ?_
    rw [show ({ w2 with drawn := w2.drawn + 1 } : World) = w2.drew from rfl]
    simp only [List.take_succ_cons, List.take_zero, List.drop_succ_cons, List.drop_zero]
    repeat still_step
    refine wpStill_nil ?_
    go_wp2_with fail
    go_ret
    exact ⟨rfl, _, HT.out⟩
  | none =>
    have h2 := h.mkmap
    have hs2 := same_mkmap h
    have ho2 := OB.mkmap h hob
    obtain ⟨w9, hrun9, hT9, hs9⟩ := h2.drew.put (ho2.below (Below.refl _ _).drew) hG hns
    simp only at hrun9
    have HT := Lib.hid (And.intro hT9 (hs2.trans hs9))
    have qm := map_none w
    have ct := h.cell
    have ft := h.frozen
    have qk := mk_map w
    have ct2 := h2.cell
    obtain ⟨d3, _⟩ := ho2.cells
    simp only at d3
    unfold inU at d3
    obtain ⟨W2, e2⟩ : ∃ W2, (w.alloc (.map #[] 0)).setCell ⟨t, 0, none⟩ (.map (some w.heap.size)) = W2 := ⟨_, rfl⟩
    rw [e2] at ct2 d3 hrun9
    have hlt := h.lt
    clear h0 h1 hc hT9 hs9 h hob hG HA hns h2 hs2 ho2
    go_enter Try.func14, Try.ntmps14
    go_wp2_with fail
    refine CG.out.mono ?_; rintro e w1 ⟨rfl, rfl⟩
    go_wp2_with fail
    refine CC.out.mono ?_; rintro e w2 ⟨rfl, rfl⟩
    clear CG CC
    go_upto_region 10 with fail
    refine wp_region_still_tail 9 (by kernel_rfl) (by kernel_rfl) ?_
    rw [show ({ W2 with drawn := W2.drawn + 1 } : World) = W2.drew from rfl]
    simp only [List.take_succ_cons, List.take_zero, List.drop_succ_cons, List.drop_zero]
    clear qm qk ct ft d1 d2 q0 q1 q2
    repeat still_step
    refine wpStill_nil ?_
    go_wp2_with fail
    go_ret
    exact ⟨rfl, _, HT.out⟩
set_option maxHeartbeats 1000000 in
/-- It doesn't come in. -/
theorem add_no (h : TS W T t M ns G w) (hob : OB (own_ W T) w n o) (hm : may G n o = false) : Calls Try.prog 14 #[.pointer (some ⟨t, 0, none⟩), .pointer (some ⟨o.b, 0, none⟩)] w fun e w' => e = .returned (.bool false) ∧ w' = w := by
  obtain ⟨b, kd, hm', ks, th, on⟩ := o
  have CG := Lib.hid (get_any h hob.2.1.1)
  have CC := Lib.hid (cont_any h hob.2.1.2.1)
  obtain ⟨d1, _, d2, _⟩ := hob.cells
  simp only at d1 d2
  unfold inU at d1 d2
  unfold may at hm
  simp only at hm CC
  by_cases h0 : n = 0
  · subst h0
    clear h hob hm CG CC
    go_enter Try.func14, Try.ntmps14
    go_wp2_with fail
    go_ret
    exact ⟨rfl, rfl⟩
  have q0 : ((n : Int) == 0) = false := by simpa using h0
  have q00 : (n != 0) = true := by simpa using h0
  rw [q00, Bool.true_and] at hm
  cases hG : G n with
  | some o' =>
    rw [hG, show pb (some o') = .pointer (some ⟨o'.b, 0, none⟩) from rfl] at CG
    clear h hob hm CC h0 q00 hG
    go_enter Try.func14, Try.ntmps14
    go_wp2_with fail
    refine CG.out.mono ?_; rintro e w1 ⟨rfl, rfl⟩
    go_wp2_with fail
    go_ret
    exact ⟨rfl, rfl⟩
  | none =>
    rw [hG] at hm
    simp only [Option.isSome_none, Bool.not_false, Bool.true_and, Bool.or_eq_false_iff] at hm
    obtain ⟨hc, hr⟩ := hm
    have hc : ctr G hm' = none := by cases hcc : ctr G hm' with
      | none => rfl
      | some _ => rw [hcc] at hc; cases hc
    rw [hG, show pb none = .pointer none from rfl] at CG
    rw [hc, show pb none = .pointer none from rfl] at CC
    by_cases h1 : n = 1
    · have q1 : ((n : Int) != 1) = false := by rw [h1]; rfl
      have q2 : ((hm' : Int) != 0) = true := by
        have : (n == 1) = true := by simpa using h1
        rw [this, Bool.true_and] at hr
        have : hm' ≠ 0 := by simpa using hr
        simp; omega
      clear h hob h0 q00 hG hc hr h1
      go_enter Try.func14, Try.ntmps14
      go_wp2_with fail
      refine CG.out.mono ?_; rintro e w1 ⟨rfl, rfl⟩
      go_wp2_with fail
      refine CC.out.mono ?_; rintro e w2 ⟨rfl, rfl⟩
      go_wp2_with fail
      go_ret
      exact ⟨rfl, rfl⟩
    · have q1 : ((n : Int) != 1) = true := by simp; omega
      clear h hob h0 q00 hG hc hr h1
      go_enter Try.func14, Try.ntmps14
      go_wp2_with fail
      refine CG.out.mono ?_; rintro e w1 ⟨rfl, rfl⟩
      go_wp2_with fail
      refine CC.out.mono ?_; rintro e w2 ⟨rfl, rfl⟩
      go_wp2_with fail
      go_ret
      exact ⟨rfl, rfl⟩
theorem add_nil (w : World) : Calls Try.prog 14 #[.pointer (some ⟨t, 0, none⟩), .pointer none] w fun e w' => e = .returned (.bool false) ∧ w' = w := by
  go_enter Try.func14, Try.ntmps14
  go_wp2_with fail
  go_ret
  exact ⟨rfl, rfl⟩
/-- Add. -/
theorem add_any (h : TS W T t M ns G w) (hob : OB (own_ W T) w n o) (hk : ∀ k o', G k = some o' → o'.ks.length ≤ 1000) (hns : ns.length ≤ 1000000) :
    Calls Try.prog 14 #[.pointer (some ⟨t, 0, none⟩), .pointer (some ⟨o.b, 0, none⟩)] w fun e w' => e = .returned (.bool (may G n o)) ∧ (∃ M', TS W T t M' (if may G n o then ns ++ [n] else ns) (if may G n o then addG G n o else G) w') ∧ Same T w w' := by
  cases hm : may G n o with
  | false => exact (add_no h hob hm).mono fun e w' ⟨h1, h2⟩ => by subst h2; exact ⟨h1, ⟨M, h⟩, Same.refl _ _⟩
  | true =>
    unfold may at hm
    rw [Bool.and_eq_true, Bool.and_eq_true] at hm
    obtain ⟨h0, hG, hh⟩ := hm
    have h0 : n ≠ 0 := by simpa using h0
    have hG : G n = none := by cases hg : G n with
      | none => rfl
      | some _ => rw [hg] at hG; cases hG
    cases hc : ctr G o.hm with
    | some ho => exact (add_home h hob hG hc (hk _ _ (ctr_some hc)) hns h0).mono fun e w' ⟨h1, h2, h3⟩ => ⟨h1, ⟨M, h2⟩, h3⟩
    | none =>
      rw [hc] at hh
      simp at hh
      exact (add_root h hob hG hc hns hh.1 hh.2).mono fun e w' ⟨h1, ⟨M', h2, h3⟩⟩ => ⟨h1, ⟨M', h2⟩, h3⟩
end
end Go.Proofs.Ytodionedjokdmaa
