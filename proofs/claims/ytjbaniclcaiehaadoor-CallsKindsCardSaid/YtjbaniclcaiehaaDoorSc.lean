/- CallsKinds. -/
import Derived.Test.YtjbaniclcaiehaaDoorSa
import Derived.Test.YtjbaniclcaiehaaDoorVm
set_option linter.unusedVariables false
set_option linter.unusedSimpArgs false
namespace Go.Proofs.YtjbaniclcaiehaaDoor
open Go.RowKit
set_option linter.unusedVariables false
set_option linter.unusedSimpArgs false
/-- The list of a call's registers, and the map of those that were seen. -/
structure KN (W : World) (B G : Nat) (A : Option Addr) (n c : Nat) (L : List Int) (j : Nat) (w : World) : Prop where
  b : Below W.heap.size W w
  r : RW (fun b => B ≤ b) 3 inI w (.slice A n c) L
  m : ∃ (m : Nat) (g : Int → Bool), MapB w G m g ∧ m ≤ j ∧ ∀ (i : Nat) (q : Int), j ≤ i → L[i]? = some q → g q = false
  g : W.heap.size ≤ G ∧ G < B
theorem KN.step {W w w' : World} {B G n c j m : Nat} {A : Option Addr} {L : List Int} {g : Int → Bool} {q : Int} (h : KN W B G A n c L j w) (hnd : L.Nodup) (hq : L[j]? = some q) (hm : m ≤ j) (hg : ∀ (i : Nat) (q : Int), j ≤ i → L[i]? = some q → g q = false) (hM : MapB w' G (m + 1) (updF g q true)) (hT : Turn [G] w w') : KN W B G A n c L (j + 1) w' :=
  ⟨h.b.trans (hT.below h.b.size fun b hb => by rw [List.mem_singleton.1 hb]; exact h.g.1), h.r.keep fun b cur hb hc => ⟨hb, hT.block b (Array.getElem?_eq_some_iff.1 hc).1 fun hm => by have := List.mem_singleton.1 hm; have := h.g.2; omega⟩, ⟨m + 1, _, hM, by omega, fun i q' hi hq' => by
    rw [updF_other]
    · exact hg i q' (by omega) hq'
    · intro e
      rw [e] at hq'
      have h1 := (List.getElem?_eq_some_iff.1 hq').1
      exact absurd ((List.getElem?_inj h1 hnd).1 (hq'.trans hq.symm)) (by omega)⟩, h.g⟩
set_option maxHeartbeats 4000000 in
set_option maxRecDepth 100000 in
theorem kinds_any (x : Int) (hx0 : -9223372036854775808 ≤ x) (hx1 : x ≤ 9223372036854775807) (W : World) (hOf : HOF W) : Calls Tryd.prog 4 #[.int .i64 x] W (RB W true) := by
  obtain ⟨t, et⟩ : ∃ t, x.tmod 40 = t := ⟨_, rfl⟩
  have ht : -40 < t ∧ t < 40 := by
    rw [← et]
    by_cases h : 0 ≤ x
    · rw [Int.tmod_eq_emod_of_nonneg h]; omega
    · obtain ⟨y, rfl⟩ : ∃ y, x = -y := ⟨-x, by omega⟩
      rw [Int.neg_tmod, Int.tmod_eq_emod_of_nonneg (by omega)]; omega
  obtain ⟨p, ep, hp⟩ : ∃ p : Nat, (t + 40).tmod 40 = (p : Int) ∧ p < 40 := ⟨((t + 40) % 40).toNat, by rw [Int.tmod_eq_emod_of_nonneg (by omega)]; omega, by omega⟩
  have i0 : IntKind.i64.wrap t = t := by rw [IntKind.wrap_i64]; omega
  have i1 : IntKind.i64.wrap (t + 40) = t + 40 := by rw [IntKind.wrap_i64]; omega
  have i2 : IntKind.i64.wrap (p : Int) = (p : Int) := by rw [IntKind.wrap_i64]; omega
  have i3 : IntKind.u64.wrap (p : Int) = (p : Int) := by rw [IntKind.wrap_u64]; omega
  have i4 : IntKind.u64.wrap ((p : Int) + 1) = ((p + 1 : Nat) : Int) := by rw [IntKind.wrap_u64]; omega
  have HP := Lib.hid (show 1 ≤ p + 1 ∧ p + 1 ≤ 40 by omega)
  obtain ⟨k, ek⟩ : ∃ k, p + 1 = k := ⟨_, rfl⟩
  rw [ek] at i4 HP
  have HOf := Lib.hid hOf
  have CF := Lib.hid (fit_any W hOf)
  clear hOf hx0 hx1 hp ht ek
  go_enter Tryd.func4, Tryd.ntmps4
  go_wp2_with fail
  refine CF.out.mono ?_; rintro e w1 ⟨rfl, hb⟩
  have HB1 := Lib.hid hb
  have C1 := Lib.hid (HOf.out k w1 (by have := HP.out; omega) HB1.out)
  clear hb CF
  go_wp2_with fail
  refine C1.out.mono ?_; rintro e w2 ⟨hb, h⟩
  rw [if_pos HP.out] at h
  obtain ⟨a1, c1, a2, c2, rfl, hc1, hc2, hr1, hr2⟩ := h
  obtain ⟨s1, es1⟩ : ∃ s, S (spO k).1 = s := ⟨_, rfl⟩
  obtain ⟨l1, el1⟩ : ∃ s, (spO k).2.1 = s := ⟨_, rfl⟩
  obtain ⟨l2, el2⟩ : ∃ s, (spO k).2.2 = s := ⟨_, rfl⟩
  have hsm := sp_small HP.out.1 HP.out.2
  rw [el1, el2] at hsm
  rw [el1] at hc1 hr1
  rw [el2] at hc2 hr2
  rw [es1, el1, el2]
  obtain ⟨m1, em1⟩ : ∃ s, l1.length = s := ⟨_, rfl⟩
  obtain ⟨m2, em2⟩ : ∃ s, l2.length = s := ⟨_, rfl⟩
  rw [em1] at hc1 hsm
  rw [em2] at hc2 hsm
  rw [em1, em2]
  have HL := Lib.hid (And.intro em1 (And.intro em2 (And.intro hc1 (And.intro hc2 hsm))))
  have HR := Lib.hid (And.intro hr1 hr2)
  have HB2 := Lib.hid (HB1.out.trans (hb.mono HB1.out.size))
  clear hb C1 es1 el1 el2 em1 em2 hc1 hc2 hr1 hr2 hsm HB1 HOf
  go_upto_region 5 with fail
  obtain ⟨X, eX⟩ : ∃ X, w2.heap.size = X := ⟨_, rfl⟩
  obtain ⟨w3, e3⟩ : ∃ w3, w2.alloc (Obj.cells #[.string s1, .slice a1 m1 c1, .slice a2 m2 c2] 29) = w3 := ⟨_, rfl⟩
  have hb3 : Below w2.heap.size w2 w3 := by rw [← e3]; exact below_alloc1 w2 _
  have hX : w3.heap[X]? = some (Obj.cells #[.string s1, .slice a1 m1 c1, .slice a2 m2 c2] 29) := by rw [← e3, ← eX]; exact heap_alloc_new w2 _
  have hmm := @run_makeMap Tryd.prog
  obtain ⟨w4, e4⟩ : ∃ w4, w3.alloc (.map #[] 0) = w4 := ⟨_, rfl⟩
  obtain ⟨G, eG⟩ : ∃ G, w3.heap.size = G := ⟨_, rfl⟩
  have hM := MapB.new w3
  rw [e4, eG] at hM
  have hb4 : Below w3.heap.size w3 w4 := by rw [← e4]; exact below_alloc1 w3 _
  have h42 : Below w2.heap.size w2 w4 := hb3.trans (hb4.mono hb3.size)
  have hX4 := (hb4.block X (Array.getElem?_eq_some_iff.1 hX).1).trans hX
  have HM := Lib.hid (And.intro hM (And.intro (show W.heap.size ≤ G by have := HB2.out.size; have := hb3.size; omega) hM.lt))
  have HF := Lib.hid (fun (wS : World) (hS : Below w4.heap.size w4 wS) => (show wS.cell? ⟨X, 1, none⟩ = some (.slice a1 m1 c1) ∧ wS.cell? ⟨X, 2, none⟩ = some (.slice a2 m2 c2) from by
    have hx := (hS.block X (Array.getElem?_eq_some_iff.1 hX4).1).trans hX4
    exact ⟨by rw [cell_of_row _ _ _ _ _ (0, 0) hx]; rfl, by rw [cell_of_row _ _ _ _ _ (0, 0) hx]; rfl⟩))
  have HR4 := Lib.hid (show NR w4 a1 l1 ∧ NR w4 a2 l2 from ⟨HR.out.1.below h42, HR.out.2.below h42⟩)
  have HB4 := Lib.hid (HB2.out.trans (h42.mono HB2.out.size))
  try rw [e3]
  try rw [eX]
  clear eX hb3 hX hM hb4 h42 hX4 HR HB2
  go_upto_region 8 with fail
  try rw [e3]
  try rw [e4]
  try rw [eG]
  clear e3 e4 eG hmm
  refine region_AU (Z := fun j => false) (S := fun w' => Below w4.heap.size w4 w') (by kernel_rfl) ((Below.refl _ _).drew) (fun hHeld => ?_)
  refine AUS_take (by kernel_rfl) rfl (i := 0) (oi := _) (v := ?vw101) rfl (by kernel_rfl) (by kernel_rfl) (by kernel_rfl) (fun _ _ _ h => h) (Or.inl ⟨by rfl, ?hz101⟩) hHeld ?rst101
  case hz101 => (intro wS hSw; clear hSw; go_simp; try with_reducible rfl)
  simp only [Act.put, List.getElem_toArray, List.getElem_cons_zero, List.getElem_cons_succ, List.setIfInBounds_toArray, List.set_cons_zero, List.set_cons_succ]
  refine AUS_take (by kernel_rfl) rfl (i := 1) (oi := _) (v := ?vw102) rfl (by kernel_rfl) (by kernel_rfl) (by kernel_rfl) (fun _ _ _ h => h) (Or.inl ⟨by rfl, ?hz102⟩) hHeld ?rst102
  case hz102 => (intro wS hSw; obtain ⟨x1, x2⟩ := HF.out wS hSw; clear hSw; go_simp; try with_reducible rfl)
  simp only [Act.put, List.getElem_toArray, List.getElem_cons_zero, List.getElem_cons_succ, List.setIfInBounds_toArray, List.set_cons_zero, List.set_cons_succ]
  refine AUS_take (by kernel_rfl) rfl (i := 3) (oi := _) (v := ?vw103) rfl (by kernel_rfl) (by kernel_rfl) (by kernel_rfl) (fun _ _ _ h => h) (Or.inl ⟨by rfl, ?hz103⟩) hHeld ?rst103
  case hz103 => (intro wS hSw; clear hSw; go_simp; try with_reducible rfl)
  simp only [Act.put, List.getElem_toArray, List.getElem_cons_zero, List.getElem_cons_succ, List.setIfInBounds_toArray, List.set_cons_zero, List.set_cons_succ]
  refine AUS_take (by kernel_rfl) rfl (i := 4) (oi := _) (v := ?vw104) rfl (by kernel_rfl) (by kernel_rfl) (by kernel_rfl) (fun _ _ _ h => h) (Or.inl ⟨by rfl, ?hz104⟩) hHeld ?rst104
  case hz104 => (intro wS hSw; obtain ⟨x1, x2⟩ := HF.out wS hSw; clear hSw; go_simp; try with_reducible rfl)
  simp only [Act.put, List.getElem_toArray, List.getElem_cons_zero, List.getElem_cons_succ, List.setIfInBounds_toArray, List.set_cons_zero, List.set_cons_succ]
  refine AUS_take (by kernel_rfl) rfl (i := 7) (oi := _) (v := ?vw105) rfl (by kernel_rfl) (by kernel_rfl) (by kernel_rfl) (fun _ _ _ h => h) (Or.inl ⟨by rfl, ?hz105⟩) hHeld ?rst105
  case hz105 => (intro wS hSw; clear hSw; go_simp; try with_reducible rfl)
  simp only [Act.put, List.getElem_toArray, List.getElem_cons_zero, List.getElem_cons_succ, List.setIfInBounds_toArray, List.set_cons_zero, List.set_cons_succ]
  have hsm := HL.out
  have HB5 := Lib.hid hHeld
  obtain ⟨v1, w5, hrun, hv1, hb5, _⟩ := app_n (B := w4.heap.size) (w := w4.drew) (n := m1) (c := c1) (A := a1) (xs := []) (ys := l1) 27 hsm.1 (by have := hsm.2.2.2.2.1; simp; omega) hsm.2.2.1 (Nat.le_refl _) (RW.nil _ _) (HR4.out.1.below (Below.refl _ w4).drew)
  rw [List.nil_append] at hv1
  obtain ⟨v2, w6, hrun2, hv2, hb6, _⟩ := app_n (B := w4.heap.size) (w := w5) (n := m2) (c := c2) (A := a2) (xs := l1) (ys := l2) 27 hsm.2.1 (by have := hsm.2.2.2.2.1; have := hsm.2.2.2.2.2.1; omega) hsm.2.2.2.1 hb5.size hv1 (HR4.out.2.below ((Below.refl _ w4).drew.trans hb5))
  have H5 := Lib.hid ((Below.refl _ w4).drew.trans hb5)
  have H6 := Lib.hid (H5.out.trans hb6)
  obtain ⟨A1, d1, ev1, hd1, _⟩ := hv1.form
  obtain ⟨A2, d2, ev2, hd2, _⟩ := hv2.form
  subst ev1
  subst ev2
  have HV := Lib.hid (And.intro hv2 hd2)
  obtain ⟨N, eN⟩ : ∃ N, (l1 ++ l2).length = N := ⟨_, rfl⟩
  rw [hsm.1] at hrun hrun2
  rw [eN] at hrun2 HV
  have HN := Lib.hid (show N = m1 + m2 by rw [← eN, List.length_append, hsm.1, hsm.2.1])
  have HE := Lib.hid eN
  have HU := Lib.hid hrun2
  clear hv1 hv2 hb5 hb6 hd1 hd2 hsm eN hrun2 hHeld
  refine AU_one (i := 2) (o := _) (by kernel_rfl) rfl (fun K hK => ?_)
  refine step_append rfl (.const (.slice none 0 0)) (.tmp 26) 27 27 rfl _ _ _ rfl rfl w5 hrun ?_
  refine hK.out _ _ (fun _ => H5.out) ?_
  clear hK K hrun
  try simp only [Act.put, List.getElem_toArray, List.getElem_cons_zero, List.getElem_cons_succ, List.setIfInBounds_toArray, List.set_cons_zero, List.set_cons_succ]
  refine AU_one (i := 5) (o := _) (by kernel_rfl) rfl (fun K hK => ?_)
  refine step_append rfl (.tmp 27) (.tmp 29) 27 27 rfl _ _ _ rfl rfl w6 HU.out ?_
  refine hK.out _ _ (fun _ => H6.out) ?_
  clear hK K HU
  try simp only [Act.put, List.getElem_toArray, List.getElem_cons_zero, List.getElem_cons_succ, List.setIfInBounds_toArray, List.set_cons_zero, List.set_cons_succ]
  have hHeld := H6.out
  refine AUS_take (by kernel_rfl) rfl (i := 6) (oi := _) (v := ?vw106) rfl (by kernel_rfl) (by kernel_rfl) (by kernel_rfl) (fun _ _ _ h => h) (Or.inl ⟨by rfl, ?hz106⟩) hHeld ?rst106
  case hz106 => (intro wS hSw; clear hSw; go_simp; try with_reducible rfl)
  simp only [Act.put, List.getElem_toArray, List.getElem_cons_zero, List.getElem_cons_succ, List.setIfInBounds_toArray, List.set_cons_zero, List.set_cons_succ]
  refine AU_done (by kernel_rfl) ?_ _
  simp only [OnlyN]
  clear hHeld
  have HK : Hid (KN W w4.heap.size G A2 N d2 (l1 ++ l2) 0 w6) := Lib.hid ⟨HB4.out.trans (H6.out.mono HB4.out.size), HV.out.1, ⟨0, _, HM.out.1.same (H6.out.block _ HM.out.1.lt), Nat.le_refl _, fun _ _ _ _ => rfl⟩, HM.out.2⟩
  have HQ := Lib.hid HL.out.2.2.2.2.2.2
  have hN4 : N ≤ 4 := by have := HL.out.2.2.2.2.1; have := HL.out.2.2.2.2.2.1; have := HN.out; omega
  have HN4 := Lib.hid hN4
  clear hN4 HL HF HR4 HB4 HM H5 H6 HV
  go_wp2_with fail
  go_loopg [32] N (fun gh vi wr => ∃ j : Nat, j ≤ N ∧ gh = N - j ∧ vi = .int .i64 j ∧ Hid (KN W w4.heap.size G A2 N d2 (l1 ++ l2) j wr))
  case atStart => exact ⟨0, Nat.zero_le _, rfl, rfl, HK⟩
  case round =>
    clear HK
    obtain ⟨j, hj, hg, rfl, hI⟩ := hrel
    by_cases hlt : j < N
    · obtain ⟨q, hq⟩ : ∃ q, (l1 ++ l2)[j]? = some q := ⟨_, List.getElem?_eq_getElem (by rw [HE.out]; exact hlt)⟩
      have hq5 := HQ.out.1 q (List.mem_of_getElem? hq)
      obtain ⟨b, off, eA, hb, k0⟩ := hI.out.r.lr j q hq
      obtain ⟨m, g, hM, hmj, hgf⟩ := hI.out.m
      have hlk := hM.at_ (j := q) (by omega) (by omega)
      rw [hgf j q (Nat.le_refl _) hq] at hlk
      obtain ⟨w7, hst, hM7, hT7⟩ := hM.store (j := q) (by have := HN4.out; unfold maxLen; omega) (by omega) (by omega) true
      have HI : Hid (KN W w4.heap.size G A2 N d2 (l1 ++ l2) (j + 1) w7) := Lib.hid (hI.out.step HQ.out.2.1 hq hmj hgf hM7 hT7)
      have lt1 : (j : Int) < (N : Int) := by omega
      have lt2 : ¬ q < 1 := by omega
      have lt3 : ¬ q > 5 := by omega
      have lt4 : ¬ 5 < q := by omega
      have i1 : IntKind.i64.wrap ((j : Int) + 1) = ((j + 1 : Nat) : Int) := by have := HN4.out; rw [IntKind.wrap_i64]; omega
      have HG := Lib.hid (And.intro hg hlt)
      subst eA
      have k0' : wr.cell? ⟨b, off + j, none⟩ = some (.int .i64 q) := k0
      clear hq hq5 hM hmj hgf hM7 hT7 hg hlt hI k0
      go_wp2_with fail
      go_roundg (N - (j + 1))
      case rel => exact ⟨j + 1, HG.out.2, rfl, by first | rfl | simp, HI⟩
      case measure => have := HG.out; omega
    · have lt1 : ¬ (j : Int) < (N : Int) := by omega
      clear hg hlt
      go_wp2_with fail
      go_ret
      exact ⟨rfl, hI.out.b⟩
end Go.Proofs.YtjbaniclcaiehaaDoor
