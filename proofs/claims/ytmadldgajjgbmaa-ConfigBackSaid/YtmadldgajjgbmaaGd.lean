/- config's reader: an object. -/
import Derived.Test.YtmadldgajjgbmaaGc
set_option linter.unusedVariables false
set_option linter.unusedSimpArgs false
namespace Go.Proofs.Ytmadldgajjgbmaa
open Go.RowKit
set_option linter.unusedVariables false
set_option linter.unusedSimpArgs false
theorem ok_of_right {D : Int} {ps : LP} (h : Lab.right D ps = true) : Lab.Ok D ps := by
  unfold Lab.right at h
  have key : ∀ k, k ≤ ps.length → Lab.okTo D ps k = true → ∀ i p, i < k → ps[i]? = some p → (1 ≤ p.1 ∧ p.1 < 4294967296 ∧ p.2 ≠ D) ∧ ∀ j q, j < i → ps[j]? = some q → q.1 < p.1 := by
    intro k
    induction k with
    | zero => intro _ h i p hi; omega
    | succ k ih =>
      intro hk h i p hi hq
      have hp : ps[k]? = some ps[k] := List.getElem?_eq_getElem (by omega)
      rw [Lab.okTo_step hp, Bool.and_eq_true, Bool.and_eq_true] at h
      obtain ⟨h1, h2, h3⟩ := h
      by_cases e : i = k
      · subst e
        rw [hp] at hq
        obtain rfl := Option.some.inj hq
        simp [Lab.goodP] at h2
        refine ⟨⟨by omega, by omega, h2.2⟩, fun j q hj hqj => ?_⟩
        obtain ⟨i', rfl⟩ : ∃ i', i = i' + 1 := ⟨i - 1, by omega⟩
        have hp' : ps[i']? = some ps[i'] := List.getElem?_eq_getElem (by omega)
        have h3' : (match ps[i']? with | none => true | some q => decide (q.1 < ps[i' + 1].1)) = true := h3
        rw [hp'] at h3'
        simp only [decide_eq_true_eq] at h3'
        by_cases e2 : j = i'
        · subst e2
          rw [hp'] at hqj
          obtain rfl := Option.some.inj hqj
          exact h3'
        · have := (ih (by omega) h1 i' _ (by omega) hp').2 j q (by omega) hqj
          omega
      · exact ih (by omega) h1 i p (by omega) hq
  have hk := key _ (Nat.le_refl _) h
  refine ⟨List.pairwise_iff_getElem.2 fun i j hi hj hij => (hk j _ hj (List.getElem?_eq_getElem hj)).2 i _ hij (List.getElem?_eq_getElem hi), fun p hp => ?_, fun p hp => ?_⟩
  · obtain ⟨i, hi⟩ := List.mem_iff_getElem?.1 hp
    have := (hk i p (List.getElem?_eq_some_iff.1 hi).1 hi).1
    exact ⟨this.1, this.2.1⟩
  · obtain ⟨i, hi⟩ := List.mem_iff_getElem?.1 hp
    exact (hk i p (List.getElem?_eq_some_iff.1 hi).1 hi).1.2.2
theorem ln_ok (s : St) : Lab.Ok (Pk.ln s).1 (Pk.ln s).2.1 ∧ (Pk.ln s).2.1.length ≤ 12 := by
  unfold Pk.ln
  split
  · exact ⟨Lab.ok_nil 0, by simp⟩
  · cases e : Pk.rl s.1 with
    | none => exact ⟨Lab.ok_nil 0, by simp⟩
    | some q =>
      obtain ⟨D, P, r⟩ := q
      have h : Lab.right D P = true := by
        unfold Pk.rl at e
        split at e
        · next hh =>
          injection e with e
          injection e with e1 e2
          injection e2 with e2 e3
          rw [← e1, ← e2]
          exact hh.2
        · cases e
      exact ⟨ok_of_right h, (Pk.right_small h).2.2.1⟩
theorem rlab_any {w : World} {B R : Nat} {s : St} (h : Rd w R s.1 s.2) (hB : B ≤ w.heap.size) : Calls Try.prog 60 #[.pointer (some ⟨R, 0, none⟩)] w fun e w' => ∃ a n c, e = .returned (.agg #[.int .i64 (Pk.ln s).1, .slice a n c]) ∧ LOv B w' (Pk.ln s).1 (.slice a n c) (Pk.ln s).2.1 ∧ RE w R (Pk.ln s).2.2 w' := by
  refine (label_any R s.1 s.2 w h).mono ?_
  rintro e w' ⟨v, rfl, ho, hr, hg⟩
  have hok := ln_ok s
  obtain ⟨a, n, c, rfl⟩ := RC.form (rc_of_owns ho (by have := hok.2; show (Pk.ln s).2.1.length ≤ _; omega))
  exact ⟨a, n, c, rfl, ⟨a, n, c, rfl, hok.1, ⟨hok.2, by omega⟩, ho.1, ho.2.imp id fun ⟨g, cap, cur, e, h2, r⟩ => ⟨g, cap, cur, e, Nat.le_trans hB h2, r⟩⟩, hr, hg⟩
/-- An object that was read, in memory. -/
structure Ov.Rt (B : Nat) (w : World) (o : Ov) : Prop where
  l : LOv B w o.m.lD o.lv.v o.m.lP
  c : LOv B w o.m.cD o.cv.v o.m.cP
  d : o.m.da.length = o.dv.n ∧ o.dv.n ≤ o.dv.c ∧ YR w o.dv.a o.m.da ∧ (∀ x ∈ o.m.da, x < 256) ∧ o.dv.n ≤ 100000
  p : RV (fun b => B ≤ b) 93 5 encM w o.mv.v o.m.mp ∧ (∀ x ∈ o.m.mp, x.Ok) ∧ o.m.mp.length ≤ 100000
theorem Ov.Rt.keep {B : Nat} {w w' : World} {o : Ov} (h : o.Rt B w) (hk : ∀ (b : Nat) (cur : Array Value) (u : TypeId), u ≠ 44 → u ≠ 100 → w.heap[b]? = some (Obj.cells cur u) → w'.heap[b]? = some (Obj.cells cur u)) : o.Rt B w' :=
  ⟨h.l.keep fun b cur h1 h2 => (hk b cur _ (by decide) (by decide) h2).trans h2.symm, h.c.keep fun b cur h1 h2 => (hk b cur _ (by decide) (by decide) h2).trans h2.symm, ⟨h.d.1, h.d.2.1, h.d.2.2.1.kept fun b cs hb => hk b cs _ (by decide) (by decide) hb, h.d.2.2.2⟩, ⟨h.p.1.keep fun b cur h1 h2 => ⟨h1, (hk b cur _ (by decide) (by decide) h2).trans h2.symm⟩, h.p.2⟩⟩
theorem Ov.Rt.rd {B : Nat} {w : World} {o : Ov} (h : o.Rt B w) : o.Rd w := by
  obtain ⟨a1, n1, c1, e1, h1⟩ := h.l
  obtain ⟨a2, n2, c2, e2, h2⟩ := h.c
  obtain ⟨A5, c5, e5, h5, _, h6⟩ := h.p.1.form
  injection e1 with e11 e12 e13
  injection e2 with e21 e22 e23
  injection e5 with e51 e52 e53
  subst e11 e12 e13 e21 e22 e23 e51 e53
  have := h.p.2.2
  exact ⟨h1.la.mono (by omega), h2.la.mono (by omega), ⟨h.d.1, h.d.2.1, h.d.2.2.1.br, h.d.2.2.2⟩, ⟨e52.symm, by omega, h6, h.p.2.1, by omega⟩⟩
theorem rt_re {B R : Nat} {w w' : World} {s t : St} {o : Ov} (h : o.Rt B w) (hr : Rd w R s.1 s.2) (hre : RE w R t w') : o.Rt B w' := h.keep fun b cur u _ h2 hb => hre.keeps hr hb h2
def zeroOA : Array Value := #[.int .i64 0, .int .i64 0, .int .i64 0, .slice none 0 0, .int .i64 0, .slice none 0 0, .int .i64 0, .int .i64 0, .slice none 0 0, .slice none 0 0, .int .i64 0, .int .i64 0]
/-- While an object is read: X the reader's box, Q the answer's, O the object's. -/
structure RO (W : World) (B R X Q O : Nat) (o : Ov) (t : St) (w : World) : Prop where
  re : RE W R t w
  x : w.heap[X]? = some (Obj.cells #[.pointer (some ⟨R, 0, none⟩)] 76)
  q : w.heap[Q]? = some (Obj.cells zeroOA 44)
  ob : w.heap[O]? = some (Obj.cells (arO o) 44)
  rt : o.Rt B w
  n : W.heap.size ≤ Q ∧ W.heap.size ≤ O ∧ Q ≠ O ∧ B ≤ W.heap.size
section
variable {W w w' : World} {B R X Q O : Nat} {o : Ov} {t t' : St}
theorem RO.call (h : RO W B R X Q O o t w) (hre : RE w R t' w') : RO W B R X Q O o t' w' :=
  ⟨h.re.trans hre, hre.keeps h.re.1 h.x (by decide), hre.keeps h.re.1 h.q (by decide), hre.keeps h.re.1 h.ob (by decide), rt_re h.rt h.re.1 hre, h.n⟩
theorem RO.set (h : RO W B R X Q O o t w) (j : Nat) (v : Value) (o' : Ov) (he : (arO o).setIfInBounds j v = arO o') (hrt : o'.Rt B w) : RO W B R X Q O o' t (w.setCell ⟨O, j, none⟩ v) := by
  have ho : ∀ b, b ≠ O → (w.setCell ⟨O, j, none⟩ v).heap[b]? = w.heap[b]? := fun b hb => heap_setCell_other _ _ _ _ hb
  refine ⟨⟨rd_cell h.re.1 h.ob (by decide) (by decide), grown_cell h.re.2 h.n.2.1⟩, (ho X fun e => absurd (cells_ty (by rw [← e]; exact h.x) h.ob) (by decide)).trans h.x, (ho Q h.n.2.2.1).trans h.q, by rw [← he]; exact heap_setCell_same w O j _ _ v h.ob, hrt.keep fun b cur u hu _ hb => (ho b fun e => ?_).trans hb, h.n⟩
  rw [e] at hb
  exact hu (cells_ty hb h.ob)
theorem RO.cx (h : RO W B R X Q O o t w) : w.cell? ⟨X, 0, none⟩ = some (.pointer (some ⟨R, 0, none⟩)) := by rw [cell_of_row _ _ _ _ _ (0, 0) h.x]; rfl
theorem RO.co (h : RO W B R X Q O o t w) (j : Nat) (v : Value) (hv : (arO o)[j]? = some v) : w.cell? ⟨O, j, none⟩ = some v := by rw [cell_of_row _ _ _ _ _ (0, 0) h.ob]; exact hv
theorem RO.fo (h : RO W B R X Q O o t w) (j : Nat) : w.frozen? ⟨O, j, none⟩ = false := frozen_of_row _ _ _ _ _ h.ob
theorem RO.size (h : RO W B R X Q O o t w) : B ≤ w.heap.size := Nat.le_trans h.n.2.2.2 h.re.2.size
end
/-- What is read ahead of its kind's. -/
def ov0 (k p : Nat) (D : Int) (P : LP) (lv : SlV) : Ov := ⟨⟨k, p, D, P, 0, [], 0, 0, [], [], 0, 0⟩, lv, ⟨none, 0, 0⟩, ⟨none, 0, 0⟩, ⟨none, 0, 0⟩⟩
theorem rt0 {B : Nat} {w : World} {k p : Nat} {D : Int} {P : LP} {a : Option Addr} {n c : Nat} (h : LOv B w D (.slice a n c) P) : (ov0 k p D P ⟨a, n, c⟩).Rt B w :=
  ⟨h, LOv.nil _ _ _, ⟨rfl, Nat.le_refl _, fun i x hi => by simp [ov0] at hi, by simp [ov0], by simp [ov0]⟩, ⟨RV.nil _ _, by simp [ov0], by simp [ov0]⟩⟩
set_option maxHeartbeats 8000000 in
set_option maxRecDepth 100000 in
theorem robj_any {w : World} {B R : Nat} {s : St} (h : Rd w R s.1 s.2) (hB : B ≤ w.heap.size) : Calls Try.prog 49 #[.agg #[.pointer (some ⟨R, 0, none⟩)]] w fun e w' => ∃ o : Ov, e = .returned (.agg (arO o)) ∧ o.m = (rOm s).1 ∧ o.Rt B w' ∧ RE w R (rOm s).2 w' := by
  obtain ⟨wA, eA⟩ : ∃ wA, w.alloc (Obj.cells #[.pointer (some ⟨R, 0, none⟩)] 76) = wA := ⟨_, rfl⟩
  obtain ⟨X, eX⟩ : ∃ X, w.heap.size = X := ⟨_, rfl⟩
  have hbA : Below w.heap.size w wA := by rw [← eA]; exact below_alloc1 w _
  have hXA : wA.heap[X]? = some (Obj.cells #[.pointer (some ⟨R, 0, none⟩)] 76) := by rw [← eA, ← eX]; exact heap_alloc_new w _
  obtain ⟨w0, e0⟩ : ∃ w0, wA.alloc (Obj.cells #[.int .i64 0, .int .i64 0, .int .i64 0, .slice none 0 0, .int .i64 0, .slice none 0 0, .int .i64 0, .int .i64 0, .slice none 0 0, .slice none 0 0, .int .i64 0, .int .i64 0] 44) = w0 := ⟨_, rfl⟩
  obtain ⟨Q, eQ⟩ : ∃ Q, wA.heap.size = Q := ⟨_, rfl⟩
  have hXQ : X + 1 = Q := by rw [← eQ, ← eA, ← eX]; simp
  have hb1 : Below wA.heap.size wA w0 := by rw [← e0]; exact below_alloc1 wA _
  have hQ : w0.heap[Q]? = some (Obj.cells zeroOA 44) := by rw [← e0, ← eQ]; exact heap_alloc_new wA _
  have hX := (hb1.block _ (Array.getElem?_eq_some_iff.1 hXA).1).trans hXA
  have hb0 : Below w.heap.size w w0 := hbA.trans (hb1.mono hbA.size)
  have H0 := Lib.hid (show RE w R s w0 from ⟨h.below hb0, grown_below hb0⟩)
  have HQ0 := Lib.hid hQ
  have HX := Lib.hid hX
  have HL := Lib.hid (show w.heap.size ≤ Q ∧ B ≤ w.heap.size ∧ B ≤ w0.heap.size ∧ Q < w0.heap.size by exact ⟨by omega, hB, Nat.le_trans hB hb0.size, (Array.getElem?_eq_some_iff.1 hQ).1⟩)
  have hkb := (Pk.nx_byte (n := 1) h.byte).1
  obtain ⟨k, ek⟩ : ∃ k, (Pk.nx 1 s).1 = k := ⟨_, rfl⟩
  rw [ek] at hkb
  have HK := Lib.hid (And.intro ek hkb)
  clear h hbA hXA hb1 hQ hX hb0 hB ek hkb
  go_enter Try.func49, Try.ntmps49
  go_upto_region 1 with fail
  try rw [eA]
  try rw [eX]
  try rw [hXQ]
  try rw [e0]
  clear eA e0 eX eQ hXQ
  obtain ⟨t3, et3⟩ : ∃ t, (Pk.ln (Pk.nx 1 (Pk.nx 1 s).2).2).2.2 = t := ⟨_, rfl⟩
  obtain ⟨p, ep⟩ : ∃ p, (Pk.nx 1 (Pk.nx 1 s).2).1 = p := ⟨_, rfl⟩
  obtain ⟨D, eD⟩ : ∃ D, (Pk.ln (Pk.nx 1 (Pk.nx 1 s).2).2).1 = D := ⟨_, rfl⟩
  obtain ⟨P, eP⟩ : ∃ P, (Pk.ln (Pk.nx 1 (Pk.nx 1 s).2).2).2.1 = P := ⟨_, rfl⟩
  have HM := Lib.hid (show rOm s = rKd k p D P t3 by unfold rOm; rw [HK.out.1, ep, eD, eP, et3])
  have HT := Lib.hid (And.intro et3 (And.intro ep (And.intro eD eP)))
  clear et3 ep eD eP
  have HF := Lib.hid (fun (wS : World) (hS : wS.heap[X]? = some (Obj.cells #[.pointer (some ⟨R, 0, none⟩)] 76)) => (show wS.cell? ⟨X, 0, none⟩ = some (.pointer (some ⟨R, 0, none⟩)) from by rw [cell_of_row _ _ _ _ _ (0, 0) hS]; rfl))
  go_cut [3] from 4 to 11 (fun v3 wx => ∃ O a n c, v3 = .pointer (some ⟨O, 0, none⟩) ∧ Hid (RO w B R X Q O (ov0 k p D P ⟨a, n, c⟩) t3 wx))
  case first =>
    refine region_AU (Z := fun _ => false) (S := fun wS => wS.heap[X]? = some (Obj.cells #[.pointer (some ⟨R, 0, none⟩)] 76)) (by kernel_rfl) (show w0.drew.heap[X]? = _ from HX.out) (fun hHeld => ?_)
    refine AUS_take (by kernel_rfl) rfl (i := 0) (oi := _) (v := ?vw201) rfl (by kernel_rfl) (by kernel_rfl) (by kernel_rfl) (fun _ _ _ h => h) (Or.inl ⟨by rfl, ?hz201⟩) hHeld ?rst201
    case hz201 => (intro wS hSw; obtain f0 := HF.out wS hSw; clear hSw; go_simp; try with_reducible rfl)
    simp only [Act.put, List.getElem_toArray, List.getElem_cons_zero, List.getElem_cons_succ, List.setIfInBounds_toArray, List.set_cons_zero, List.set_cons_succ]
    refine AUS_take (by kernel_rfl) rfl (i := 2) (oi := _) (v := ?vw301) rfl (by kernel_rfl) (by kernel_rfl) (by kernel_rfl) (fun _ _ _ h => h) (Or.inl ⟨by rfl, ?hz301⟩) hHeld ?rst301
    case hz301 => (intro wS hSw; obtain f0 := HF.out wS hSw; clear hSw; go_simp; try with_reducible rfl)
    simp only [Act.put, List.getElem_toArray, List.getElem_cons_zero, List.getElem_cons_succ, List.setIfInBounds_toArray, List.set_cons_zero, List.set_cons_succ]
    refine AUS_take (by kernel_rfl) rfl (i := 4) (oi := _) (v := ?vw401) rfl (by kernel_rfl) (by kernel_rfl) (by kernel_rfl) (fun _ _ _ h => h) (Or.inl ⟨by rfl, ?hz401⟩) hHeld ?rst401
    case hz401 => (intro wS hSw; clear hSw; go_simp; try with_reducible rfl)
    simp only [Act.put, List.getElem_toArray, List.getElem_cons_zero, List.getElem_cons_succ, List.setIfInBounds_toArray, List.set_cons_zero, List.set_cons_succ]
    refine AUS_take (by kernel_rfl) rfl (i := 5) (oi := _) (v := ?vw501) rfl (by kernel_rfl) (by kernel_rfl) (by kernel_rfl) (fun _ _ _ h => h) (Or.inl ⟨by rfl, ?hz501⟩) hHeld ?rst501
    case hz501 => (intro wS hSw; obtain f0 := HF.out wS hSw; clear hSw; go_simp; try with_reducible rfl)
    simp only [Act.put, List.getElem_toArray, List.getElem_cons_zero, List.getElem_cons_succ, List.setIfInBounds_toArray, List.set_cons_zero, List.set_cons_succ]
    obtain ⟨wd, ewd⟩ : ∃ wd, w0.drew = wd := ⟨_, rfl⟩
    rw [ewd] at hHeld
    have Hd := Lib.hid (show RE w R s wd from by rw [← ewd]; exact H0.out.below (Below.refl _ w0).drew)
    have HQd := Lib.hid (show wd.heap[Q]? = some (Obj.cells zeroOA 44) from by rw [← ewd]; exact HQ0.out)
    rw [ewd]
    clear ewd
    refine AU_two (i := 1) (j := 8) (oi := _) (oj := _) (by kernel_rfl) rfl rfl (fun K hK => ?_) (fun K hK => ?_)
    · have HHwdc0 := Lib.hid hHeld
      have CC := rnum_any (n := 1) Hd.out.1 (by omega)
      rw [HK.out.1] at CC
      have CC := Lib.hid CC
      clear hHeld
      go_simp
      refine CC.out.mono ?_
      rintro e wdc0 ⟨rfl, hre⟩
      have Hdc0 := Lib.hid (Hd.out.trans hre)
      have hHeld : wdc0.heap[X]? = some (Obj.cells #[.pointer (some ⟨R, 0, none⟩)] 76) := hre.keeps Hd.out.1 HHwdc0.out (by decide)
      have HQdc0 := Lib.hid (hre.keeps Hd.out.1 HQd.out (by decide))
      clear HHwdc0 hre CC 
      refine hK.out _ _ (fun _ => hHeld) ?_
      clear hK K
      try simp only [Act.put, List.getElem_toArray, List.getElem_cons_zero, List.getElem_cons_succ, List.setIfInBounds_toArray, List.set_cons_zero, List.set_cons_succ]
      refine AU_two (i := 3) (j := 8) (oi := _) (oj := _) (by kernel_rfl) rfl rfl (fun K hK => ?_) (fun K hK => ?_)
      · have HHwdc0c1 := Lib.hid hHeld
        have CC := rnum_any (n := 1) Hdc0.out.1 (by omega)
        rw [HT.out.2.1] at CC
        have CC := Lib.hid CC
        clear hHeld
        go_simp
        refine CC.out.mono ?_
        rintro e wdc0c1 ⟨rfl, hre⟩
        have Hdc0c1 := Lib.hid (Hdc0.out.trans hre)
        have hHeld : wdc0c1.heap[X]? = some (Obj.cells #[.pointer (some ⟨R, 0, none⟩)] 76) := hre.keeps Hdc0.out.1 HHwdc0c1.out (by decide)
        have HQdc0c1 := Lib.hid (hre.keeps Hdc0.out.1 HQdc0.out (by decide))
        clear HHwdc0c1 hre CC 
        refine hK.out _ _ (fun _ => hHeld) ?_
        clear hK K
        try simp only [Act.put, List.getElem_toArray, List.getElem_cons_zero, List.getElem_cons_succ, List.setIfInBounds_toArray, List.set_cons_zero, List.set_cons_succ]
        refine AU_two (i := 6) (j := 8) (oi := _) (oj := _) (by kernel_rfl) rfl rfl (fun K hK => ?_) (fun K hK => ?_)
        · have HHwdc0c1c2 := Lib.hid hHeld
          have CC := rlab_any (B := B) Hdc0c1.out.1 (Nat.le_trans HL.out.2.1 Hdc0c1.out.2.size)
          rw [HT.out.2.2.1, HT.out.2.2.2, HT.out.1] at CC
          have CC := Lib.hid CC
          clear hHeld
          go_simp
          refine CC.out.mono ?_
          rintro e wdc0c1c2 ⟨aL, nL, cL, rfl, hlo, hre⟩
          have Hdc0c1c2 := Lib.hid (Hdc0c1.out.trans hre)
          have hHeld : wdc0c1c2.heap[X]? = some (Obj.cells #[.pointer (some ⟨R, 0, none⟩)] 76) := hre.keeps Hdc0c1.out.1 HHwdc0c1c2.out (by decide)
          have HQdc0c1c2 := Lib.hid (hre.keeps Hdc0c1.out.1 HQdc0c1.out (by decide))
          have HLodc0c1c2 := Lib.hid hlo
          clear HHwdc0c1c2 hre CC hlo
          refine hK.out _ _ (fun _ => hHeld) ?_
          clear hK K
          try simp only [Act.put, List.getElem_toArray, List.getElem_cons_zero, List.getElem_cons_succ, List.setIfInBounds_toArray, List.set_cons_zero, List.set_cons_succ]
          refine AUS_take (by kernel_rfl) rfl (i := 7) (oi := _) (v := ?vw601) rfl (by kernel_rfl) (by kernel_rfl) (by kernel_rfl) (fun _ _ _ h => h) (Or.inl ⟨by rfl, ?hz601⟩) hHeld ?rst601
          case hz601 => (intro wS hSw; clear hSw; go_simp; try with_reducible rfl)
          simp only [Act.put, List.getElem_toArray, List.getElem_cons_zero, List.getElem_cons_succ, List.setIfInBounds_toArray, List.set_cons_zero, List.set_cons_succ]
          refine AU_one (i := 8) (o := _) (by kernel_rfl) rfl (fun K hK => ?_)
          go_simp
          obtain ⟨wdc0c1c2a, ewdc0c1c2a⟩ : ∃ wn, wdc0c1c2.alloc (Obj.cells #[.int .i64 0, .int .i64 0, .int .i64 0, .slice none 0 0, .int .i64 0, .slice none 0 0, .int .i64 0, .int .i64 0, .slice none 0 0, .slice none 0 0, .int .i64 0, .int .i64 0] 44) = wn := ⟨_, rfl⟩
          obtain ⟨O, eO⟩ : ∃ O, wdc0c1c2.heap.size = O := ⟨_, rfl⟩
          have hb : Below wdc0c1c2.heap.size wdc0c1c2 wdc0c1c2a := by rw [← ewdc0c1c2a]; exact below_alloc1 wdc0c1c2 _
          have hOO : wdc0c1c2a.heap[O]? = some (Obj.cells zeroOA 44) := by rw [← ewdc0c1c2a, ← eO]; exact heap_alloc_new wdc0c1c2 _
          try rw [ewdc0c1c2a]
          try rw [eO]
          have Hdc0c1c2a := Lib.hid (Hdc0c1c2.out.below hb)
          have hHeld : wdc0c1c2a.heap[X]? = some (Obj.cells #[.pointer (some ⟨R, 0, none⟩)] 76) := (hb.block _ (Array.getElem?_eq_some_iff.1 hHeld).1).trans hHeld
          have HNO := Lib.hid (show w.heap.size ≤ O ∧ Q ≠ O from ⟨by rw [← eO]; exact Hdc0c1c2.out.2.size, by rw [← eO]; have := (Array.getElem?_eq_some_iff.1 HQdc0c1c2.out).1; omega⟩)
          have HQdc0c1c2a := Lib.hid ((hb.block _ (Array.getElem?_eq_some_iff.1 HQdc0c1c2.out).1).trans HQdc0c1c2.out)
          have HOdc0c1c2a := Lib.hid hOO
          have HLodc0c1c2a := Lib.hid (HLodc0c1c2.out.below hb)
          clear hb hOO ewdc0c1c2a eO
          refine hK.out _ _ (fun _ => hHeld) ?_
          clear hK K
          try simp only [Act.put, List.getElem_toArray, List.getElem_cons_zero, List.getElem_cons_succ, List.setIfInBounds_toArray, List.set_cons_zero, List.set_cons_succ]
          refine AU_one (i := 9) (o := _) (by kernel_rfl) rfl (fun K hK => ?_)
          refine step_store_row rfl 44 (.tmp 3) (.tmp 11) rfl O #[.int .i64 (k : Int), .int .i64 (p : Int), .int .i64 D, .slice aL nL cL, .int .i64 0, .slice none 0 0, .int .i64 0, .int .i64 0, .slice none 0 0, .slice none 0 0, .int .i64 0, .int .i64 0] rfl rfl 44 _ HOdc0c1c2a.out sizeO rfl (by simp [Value.oneCell']) ?_
          have ho : ∀ b, b ≠ O → (wdc0c1c2a.setRow O #[.int .i64 (k : Int), .int .i64 (p : Int), .int .i64 D, .slice aL nL cL, .int .i64 0, .slice none 0 0, .int .i64 0, .int .i64 0, .slice none 0 0, .slice none 0 0, .int .i64 0, .int .i64 0]).heap[b]? = wdc0c1c2a.heap[b]? := fun b hb => setRow_other wdc0c1c2a O b _ hb
          have hX2 : (wdc0c1c2a.setRow O #[.int .i64 (k : Int), .int .i64 (p : Int), .int .i64 D, .slice aL nL cL, .int .i64 0, .slice none 0 0, .int .i64 0, .int .i64 0, .slice none 0 0, .slice none 0 0, .int .i64 0, .int .i64 0]).heap[X]? = some (Obj.cells #[.pointer (some ⟨R, 0, none⟩)] 76) := (ho X fun e => absurd (cells_ty (by rw [← e]; exact hHeld) HOdc0c1c2a.out) (by decide)).trans hHeld
          have HE := Lib.hid (show RO w B R X Q O (ov0 k p D P ⟨aL, nL, cL⟩) t3 (wdc0c1c2a.setRow O #[.int .i64 (k : Int), .int .i64 (p : Int), .int .i64 D, .slice aL nL cL, .int .i64 0, .slice none 0 0, .int .i64 0, .int .i64 0, .slice none 0 0, .slice none 0 0, .int .i64 0, .int .i64 0]) from ⟨⟨rd_row Hdc0c1c2a.out.1 HOdc0c1c2a.out (by decide) (by decide), grown_row Hdc0c1c2a.out.2 HNO.out.1⟩, hX2, (ho Q HNO.out.2).trans HQdc0c1c2a.out, setRow_heap _ O _ _ _ _ HOdc0c1c2a.out, (rt0 HLodc0c1c2a.out).keep fun b cur u hu _ hb => (ho b fun e => hu (cells_ty (by rw [← e]; exact hb) HOdc0c1c2a.out)).trans hb, HL.out.1, HNO.out.1, HNO.out.2, HL.out.2.1⟩)
          refine hK.out _ _ (fun _ => hX2) ?_
          clear hK K ho hX2 hHeld
          try simp only [Act.put, List.getElem_toArray, List.getElem_cons_zero, List.getElem_cons_succ, List.setIfInBounds_toArray, List.set_cons_zero, List.set_cons_succ]
          refine AU_done (by kernel_rfl) ?_ _
          simp only [OnlyN]
          go_wp2_with fail
          go_meet
          exact ⟨O, aL, nL, cL, rfl, HE⟩
        · go_simp
          obtain ⟨wdc0c1a, ewdc0c1a⟩ : ∃ wn, wdc0c1.alloc (Obj.cells #[.int .i64 0, .int .i64 0, .int .i64 0, .slice none 0 0, .int .i64 0, .slice none 0 0, .int .i64 0, .int .i64 0, .slice none 0 0, .slice none 0 0, .int .i64 0, .int .i64 0] 44) = wn := ⟨_, rfl⟩
          obtain ⟨O, eO⟩ : ∃ O, wdc0c1.heap.size = O := ⟨_, rfl⟩
          have hb : Below wdc0c1.heap.size wdc0c1 wdc0c1a := by rw [← ewdc0c1a]; exact below_alloc1 wdc0c1 _
          have hOO : wdc0c1a.heap[O]? = some (Obj.cells zeroOA 44) := by rw [← ewdc0c1a, ← eO]; exact heap_alloc_new wdc0c1 _
          try rw [ewdc0c1a]
          try rw [eO]
          have Hdc0c1a := Lib.hid (Hdc0c1.out.below hb)
          have hHeld : wdc0c1a.heap[X]? = some (Obj.cells #[.pointer (some ⟨R, 0, none⟩)] 76) := (hb.block _ (Array.getElem?_eq_some_iff.1 hHeld).1).trans hHeld
          have HNO := Lib.hid (show w.heap.size ≤ O ∧ Q ≠ O from ⟨by rw [← eO]; exact Hdc0c1.out.2.size, by rw [← eO]; have := (Array.getElem?_eq_some_iff.1 HQdc0c1.out).1; omega⟩)
          have HQdc0c1a := Lib.hid ((hb.block _ (Array.getElem?_eq_some_iff.1 HQdc0c1.out).1).trans HQdc0c1.out)
          have HOdc0c1a := Lib.hid hOO
          clear hb hOO ewdc0c1a eO
          refine hK.out _ _ (fun _ => hHeld) ?_
          clear hK K
          try simp only [Act.put, List.getElem_toArray, List.getElem_cons_zero, List.getElem_cons_succ, List.setIfInBounds_toArray, List.set_cons_zero, List.set_cons_succ]
          refine AU_one (i := 6) (o := _) (by kernel_rfl) rfl (fun K hK => ?_)
          have HHwdc0c1ac2 := Lib.hid hHeld
          have CC := rlab_any (B := B) Hdc0c1a.out.1 (Nat.le_trans HL.out.2.1 Hdc0c1a.out.2.size)
          rw [HT.out.2.2.1, HT.out.2.2.2, HT.out.1] at CC
          have CC := Lib.hid CC
          clear hHeld
          go_simp
          refine CC.out.mono ?_
          rintro e wdc0c1ac2 ⟨aL, nL, cL, rfl, hlo, hre⟩
          have Hdc0c1ac2 := Lib.hid (Hdc0c1a.out.trans hre)
          have hHeld : wdc0c1ac2.heap[X]? = some (Obj.cells #[.pointer (some ⟨R, 0, none⟩)] 76) := hre.keeps Hdc0c1a.out.1 HHwdc0c1ac2.out (by decide)
          have HQdc0c1ac2 := Lib.hid (hre.keeps Hdc0c1a.out.1 HQdc0c1a.out (by decide))
          have HOdc0c1ac2 := Lib.hid (hre.keeps Hdc0c1a.out.1 HOdc0c1a.out (by decide))
          have HLodc0c1ac2 := Lib.hid hlo
          clear HHwdc0c1ac2 hre CC hlo
          refine hK.out _ _ (fun _ => hHeld) ?_
          clear hK K
          try simp only [Act.put, List.getElem_toArray, List.getElem_cons_zero, List.getElem_cons_succ, List.setIfInBounds_toArray, List.set_cons_zero, List.set_cons_succ]
          refine AUS_take (by kernel_rfl) rfl (i := 7) (oi := _) (v := ?vw701) rfl (by kernel_rfl) (by kernel_rfl) (by kernel_rfl) (fun _ _ _ h => h) (Or.inl ⟨by rfl, ?hz701⟩) hHeld ?rst701
          case hz701 => (intro wS hSw; clear hSw; go_simp; try with_reducible rfl)
          simp only [Act.put, List.getElem_toArray, List.getElem_cons_zero, List.getElem_cons_succ, List.setIfInBounds_toArray, List.set_cons_zero, List.set_cons_succ]
          refine AU_one (i := 9) (o := _) (by kernel_rfl) rfl (fun K hK => ?_)
          refine step_store_row rfl 44 (.tmp 3) (.tmp 11) rfl O #[.int .i64 (k : Int), .int .i64 (p : Int), .int .i64 D, .slice aL nL cL, .int .i64 0, .slice none 0 0, .int .i64 0, .int .i64 0, .slice none 0 0, .slice none 0 0, .int .i64 0, .int .i64 0] rfl rfl 44 _ HOdc0c1ac2.out sizeO rfl (by simp [Value.oneCell']) ?_
          have ho : ∀ b, b ≠ O → (wdc0c1ac2.setRow O #[.int .i64 (k : Int), .int .i64 (p : Int), .int .i64 D, .slice aL nL cL, .int .i64 0, .slice none 0 0, .int .i64 0, .int .i64 0, .slice none 0 0, .slice none 0 0, .int .i64 0, .int .i64 0]).heap[b]? = wdc0c1ac2.heap[b]? := fun b hb => setRow_other wdc0c1ac2 O b _ hb
          have hX2 : (wdc0c1ac2.setRow O #[.int .i64 (k : Int), .int .i64 (p : Int), .int .i64 D, .slice aL nL cL, .int .i64 0, .slice none 0 0, .int .i64 0, .int .i64 0, .slice none 0 0, .slice none 0 0, .int .i64 0, .int .i64 0]).heap[X]? = some (Obj.cells #[.pointer (some ⟨R, 0, none⟩)] 76) := (ho X fun e => absurd (cells_ty (by rw [← e]; exact hHeld) HOdc0c1ac2.out) (by decide)).trans hHeld
          have HE := Lib.hid (show RO w B R X Q O (ov0 k p D P ⟨aL, nL, cL⟩) t3 (wdc0c1ac2.setRow O #[.int .i64 (k : Int), .int .i64 (p : Int), .int .i64 D, .slice aL nL cL, .int .i64 0, .slice none 0 0, .int .i64 0, .int .i64 0, .slice none 0 0, .slice none 0 0, .int .i64 0, .int .i64 0]) from ⟨⟨rd_row Hdc0c1ac2.out.1 HOdc0c1ac2.out (by decide) (by decide), grown_row Hdc0c1ac2.out.2 HNO.out.1⟩, hX2, (ho Q HNO.out.2).trans HQdc0c1ac2.out, setRow_heap _ O _ _ _ _ HOdc0c1ac2.out, (rt0 HLodc0c1ac2.out).keep fun b cur u hu _ hb => (ho b fun e => hu (cells_ty (by rw [← e]; exact hb) HOdc0c1ac2.out)).trans hb, HL.out.1, HNO.out.1, HNO.out.2, HL.out.2.1⟩)
          refine hK.out _ _ (fun _ => hX2) ?_
          clear hK K ho hX2 hHeld
          try simp only [Act.put, List.getElem_toArray, List.getElem_cons_zero, List.getElem_cons_succ, List.setIfInBounds_toArray, List.set_cons_zero, List.set_cons_succ]
          refine AU_done (by kernel_rfl) ?_ _
          simp only [OnlyN]
          go_wp2_with fail
          go_meet
          exact ⟨O, aL, nL, cL, rfl, HE⟩
      · go_simp
        obtain ⟨wdc0a, ewdc0a⟩ : ∃ wn, wdc0.alloc (Obj.cells #[.int .i64 0, .int .i64 0, .int .i64 0, .slice none 0 0, .int .i64 0, .slice none 0 0, .int .i64 0, .int .i64 0, .slice none 0 0, .slice none 0 0, .int .i64 0, .int .i64 0] 44) = wn := ⟨_, rfl⟩
        obtain ⟨O, eO⟩ : ∃ O, wdc0.heap.size = O := ⟨_, rfl⟩
        have hb : Below wdc0.heap.size wdc0 wdc0a := by rw [← ewdc0a]; exact below_alloc1 wdc0 _
        have hOO : wdc0a.heap[O]? = some (Obj.cells zeroOA 44) := by rw [← ewdc0a, ← eO]; exact heap_alloc_new wdc0 _
        try rw [ewdc0a]
        try rw [eO]
        have Hdc0a := Lib.hid (Hdc0.out.below hb)
        have hHeld : wdc0a.heap[X]? = some (Obj.cells #[.pointer (some ⟨R, 0, none⟩)] 76) := (hb.block _ (Array.getElem?_eq_some_iff.1 hHeld).1).trans hHeld
        have HNO := Lib.hid (show w.heap.size ≤ O ∧ Q ≠ O from ⟨by rw [← eO]; exact Hdc0.out.2.size, by rw [← eO]; have := (Array.getElem?_eq_some_iff.1 HQdc0.out).1; omega⟩)
        have HQdc0a := Lib.hid ((hb.block _ (Array.getElem?_eq_some_iff.1 HQdc0.out).1).trans HQdc0.out)
        have HOdc0a := Lib.hid hOO
        clear hb hOO ewdc0a eO
        refine hK.out _ _ (fun _ => hHeld) ?_
        clear hK K
        try simp only [Act.put, List.getElem_toArray, List.getElem_cons_zero, List.getElem_cons_succ, List.setIfInBounds_toArray, List.set_cons_zero, List.set_cons_succ]
        refine AU_one (i := 3) (o := _) (by kernel_rfl) rfl (fun K hK => ?_)
        have HHwdc0ac1 := Lib.hid hHeld
        have CC := rnum_any (n := 1) Hdc0a.out.1 (by omega)
        rw [HT.out.2.1] at CC
        have CC := Lib.hid CC
        clear hHeld
        go_simp
        refine CC.out.mono ?_
        rintro e wdc0ac1 ⟨rfl, hre⟩
        have Hdc0ac1 := Lib.hid (Hdc0a.out.trans hre)
        have hHeld : wdc0ac1.heap[X]? = some (Obj.cells #[.pointer (some ⟨R, 0, none⟩)] 76) := hre.keeps Hdc0a.out.1 HHwdc0ac1.out (by decide)
        have HQdc0ac1 := Lib.hid (hre.keeps Hdc0a.out.1 HQdc0a.out (by decide))
        have HOdc0ac1 := Lib.hid (hre.keeps Hdc0a.out.1 HOdc0a.out (by decide))
        clear HHwdc0ac1 hre CC 
        refine hK.out _ _ (fun _ => hHeld) ?_
        clear hK K
        try simp only [Act.put, List.getElem_toArray, List.getElem_cons_zero, List.getElem_cons_succ, List.setIfInBounds_toArray, List.set_cons_zero, List.set_cons_succ]
        refine AU_one (i := 6) (o := _) (by kernel_rfl) rfl (fun K hK => ?_)
        have HHwdc0ac1c2 := Lib.hid hHeld
        have CC := rlab_any (B := B) Hdc0ac1.out.1 (Nat.le_trans HL.out.2.1 Hdc0ac1.out.2.size)
        rw [HT.out.2.2.1, HT.out.2.2.2, HT.out.1] at CC
        have CC := Lib.hid CC
        clear hHeld
        go_simp
        refine CC.out.mono ?_
        rintro e wdc0ac1c2 ⟨aL, nL, cL, rfl, hlo, hre⟩
        have Hdc0ac1c2 := Lib.hid (Hdc0ac1.out.trans hre)
        have hHeld : wdc0ac1c2.heap[X]? = some (Obj.cells #[.pointer (some ⟨R, 0, none⟩)] 76) := hre.keeps Hdc0ac1.out.1 HHwdc0ac1c2.out (by decide)
        have HQdc0ac1c2 := Lib.hid (hre.keeps Hdc0ac1.out.1 HQdc0ac1.out (by decide))
        have HOdc0ac1c2 := Lib.hid (hre.keeps Hdc0ac1.out.1 HOdc0ac1.out (by decide))
        have HLodc0ac1c2 := Lib.hid hlo
        clear HHwdc0ac1c2 hre CC hlo
        refine hK.out _ _ (fun _ => hHeld) ?_
        clear hK K
        try simp only [Act.put, List.getElem_toArray, List.getElem_cons_zero, List.getElem_cons_succ, List.setIfInBounds_toArray, List.set_cons_zero, List.set_cons_succ]
        refine AUS_take (by kernel_rfl) rfl (i := 7) (oi := _) (v := ?vw801) rfl (by kernel_rfl) (by kernel_rfl) (by kernel_rfl) (fun _ _ _ h => h) (Or.inl ⟨by rfl, ?hz801⟩) hHeld ?rst801
        case hz801 => (intro wS hSw; clear hSw; go_simp; try with_reducible rfl)
        simp only [Act.put, List.getElem_toArray, List.getElem_cons_zero, List.getElem_cons_succ, List.setIfInBounds_toArray, List.set_cons_zero, List.set_cons_succ]
        refine AU_one (i := 9) (o := _) (by kernel_rfl) rfl (fun K hK => ?_)
        refine step_store_row rfl 44 (.tmp 3) (.tmp 11) rfl O #[.int .i64 (k : Int), .int .i64 (p : Int), .int .i64 D, .slice aL nL cL, .int .i64 0, .slice none 0 0, .int .i64 0, .int .i64 0, .slice none 0 0, .slice none 0 0, .int .i64 0, .int .i64 0] rfl rfl 44 _ HOdc0ac1c2.out sizeO rfl (by simp [Value.oneCell']) ?_
        have ho : ∀ b, b ≠ O → (wdc0ac1c2.setRow O #[.int .i64 (k : Int), .int .i64 (p : Int), .int .i64 D, .slice aL nL cL, .int .i64 0, .slice none 0 0, .int .i64 0, .int .i64 0, .slice none 0 0, .slice none 0 0, .int .i64 0, .int .i64 0]).heap[b]? = wdc0ac1c2.heap[b]? := fun b hb => setRow_other wdc0ac1c2 O b _ hb
        have hX2 : (wdc0ac1c2.setRow O #[.int .i64 (k : Int), .int .i64 (p : Int), .int .i64 D, .slice aL nL cL, .int .i64 0, .slice none 0 0, .int .i64 0, .int .i64 0, .slice none 0 0, .slice none 0 0, .int .i64 0, .int .i64 0]).heap[X]? = some (Obj.cells #[.pointer (some ⟨R, 0, none⟩)] 76) := (ho X fun e => absurd (cells_ty (by rw [← e]; exact hHeld) HOdc0ac1c2.out) (by decide)).trans hHeld
        have HE := Lib.hid (show RO w B R X Q O (ov0 k p D P ⟨aL, nL, cL⟩) t3 (wdc0ac1c2.setRow O #[.int .i64 (k : Int), .int .i64 (p : Int), .int .i64 D, .slice aL nL cL, .int .i64 0, .slice none 0 0, .int .i64 0, .int .i64 0, .slice none 0 0, .slice none 0 0, .int .i64 0, .int .i64 0]) from ⟨⟨rd_row Hdc0ac1c2.out.1 HOdc0ac1c2.out (by decide) (by decide), grown_row Hdc0ac1c2.out.2 HNO.out.1⟩, hX2, (ho Q HNO.out.2).trans HQdc0ac1c2.out, setRow_heap _ O _ _ _ _ HOdc0ac1c2.out, (rt0 HLodc0ac1c2.out).keep fun b cur u hu _ hb => (ho b fun e => hu (cells_ty (by rw [← e]; exact hb) HOdc0ac1c2.out)).trans hb, HL.out.1, HNO.out.1, HNO.out.2, HL.out.2.1⟩)
        refine hK.out _ _ (fun _ => hX2) ?_
        clear hK K ho hX2 hHeld
        try simp only [Act.put, List.getElem_toArray, List.getElem_cons_zero, List.getElem_cons_succ, List.setIfInBounds_toArray, List.set_cons_zero, List.set_cons_succ]
        refine AU_done (by kernel_rfl) ?_ _
        simp only [OnlyN]
        go_wp2_with fail
        go_meet
        exact ⟨O, aL, nL, cL, rfl, HE⟩
    · go_simp
      obtain ⟨wda, ewda⟩ : ∃ wn, wd.alloc (Obj.cells #[.int .i64 0, .int .i64 0, .int .i64 0, .slice none 0 0, .int .i64 0, .slice none 0 0, .int .i64 0, .int .i64 0, .slice none 0 0, .slice none 0 0, .int .i64 0, .int .i64 0] 44) = wn := ⟨_, rfl⟩
      obtain ⟨O, eO⟩ : ∃ O, wd.heap.size = O := ⟨_, rfl⟩
      have hb : Below wd.heap.size wd wda := by rw [← ewda]; exact below_alloc1 wd _
      have hOO : wda.heap[O]? = some (Obj.cells zeroOA 44) := by rw [← ewda, ← eO]; exact heap_alloc_new wd _
      try rw [ewda]
      try rw [eO]
      have Hda := Lib.hid (Hd.out.below hb)
      have hHeld : wda.heap[X]? = some (Obj.cells #[.pointer (some ⟨R, 0, none⟩)] 76) := (hb.block _ (Array.getElem?_eq_some_iff.1 hHeld).1).trans hHeld
      have HNO := Lib.hid (show w.heap.size ≤ O ∧ Q ≠ O from ⟨by rw [← eO]; exact Hd.out.2.size, by rw [← eO]; have := (Array.getElem?_eq_some_iff.1 HQd.out).1; omega⟩)
      have HQda := Lib.hid ((hb.block _ (Array.getElem?_eq_some_iff.1 HQd.out).1).trans HQd.out)
      have HOda := Lib.hid hOO
      clear hb hOO ewda eO
      refine hK.out _ _ (fun _ => hHeld) ?_
      clear hK K
      try simp only [Act.put, List.getElem_toArray, List.getElem_cons_zero, List.getElem_cons_succ, List.setIfInBounds_toArray, List.set_cons_zero, List.set_cons_succ]
      refine AU_one (i := 1) (o := _) (by kernel_rfl) rfl (fun K hK => ?_)
      have HHwdac0 := Lib.hid hHeld
      have CC := rnum_any (n := 1) Hda.out.1 (by omega)
      rw [HK.out.1] at CC
      have CC := Lib.hid CC
      clear hHeld
      go_simp
      refine CC.out.mono ?_
      rintro e wdac0 ⟨rfl, hre⟩
      have Hdac0 := Lib.hid (Hda.out.trans hre)
      have hHeld : wdac0.heap[X]? = some (Obj.cells #[.pointer (some ⟨R, 0, none⟩)] 76) := hre.keeps Hda.out.1 HHwdac0.out (by decide)
      have HQdac0 := Lib.hid (hre.keeps Hda.out.1 HQda.out (by decide))
      have HOdac0 := Lib.hid (hre.keeps Hda.out.1 HOda.out (by decide))
      clear HHwdac0 hre CC 
      refine hK.out _ _ (fun _ => hHeld) ?_
      clear hK K
      try simp only [Act.put, List.getElem_toArray, List.getElem_cons_zero, List.getElem_cons_succ, List.setIfInBounds_toArray, List.set_cons_zero, List.set_cons_succ]
      refine AU_one (i := 3) (o := _) (by kernel_rfl) rfl (fun K hK => ?_)
      have HHwdac0c1 := Lib.hid hHeld
      have CC := rnum_any (n := 1) Hdac0.out.1 (by omega)
      rw [HT.out.2.1] at CC
      have CC := Lib.hid CC
      clear hHeld
      go_simp
      refine CC.out.mono ?_
      rintro e wdac0c1 ⟨rfl, hre⟩
      have Hdac0c1 := Lib.hid (Hdac0.out.trans hre)
      have hHeld : wdac0c1.heap[X]? = some (Obj.cells #[.pointer (some ⟨R, 0, none⟩)] 76) := hre.keeps Hdac0.out.1 HHwdac0c1.out (by decide)
      have HQdac0c1 := Lib.hid (hre.keeps Hdac0.out.1 HQdac0.out (by decide))
      have HOdac0c1 := Lib.hid (hre.keeps Hdac0.out.1 HOdac0.out (by decide))
      clear HHwdac0c1 hre CC 
      refine hK.out _ _ (fun _ => hHeld) ?_
      clear hK K
      try simp only [Act.put, List.getElem_toArray, List.getElem_cons_zero, List.getElem_cons_succ, List.setIfInBounds_toArray, List.set_cons_zero, List.set_cons_succ]
      refine AU_one (i := 6) (o := _) (by kernel_rfl) rfl (fun K hK => ?_)
      have HHwdac0c1c2 := Lib.hid hHeld
      have CC := rlab_any (B := B) Hdac0c1.out.1 (Nat.le_trans HL.out.2.1 Hdac0c1.out.2.size)
      rw [HT.out.2.2.1, HT.out.2.2.2, HT.out.1] at CC
      have CC := Lib.hid CC
      clear hHeld
      go_simp
      refine CC.out.mono ?_
      rintro e wdac0c1c2 ⟨aL, nL, cL, rfl, hlo, hre⟩
      have Hdac0c1c2 := Lib.hid (Hdac0c1.out.trans hre)
      have hHeld : wdac0c1c2.heap[X]? = some (Obj.cells #[.pointer (some ⟨R, 0, none⟩)] 76) := hre.keeps Hdac0c1.out.1 HHwdac0c1c2.out (by decide)
      have HQdac0c1c2 := Lib.hid (hre.keeps Hdac0c1.out.1 HQdac0c1.out (by decide))
      have HOdac0c1c2 := Lib.hid (hre.keeps Hdac0c1.out.1 HOdac0c1.out (by decide))
      have HLodac0c1c2 := Lib.hid hlo
      clear HHwdac0c1c2 hre CC hlo
      refine hK.out _ _ (fun _ => hHeld) ?_
      clear hK K
      try simp only [Act.put, List.getElem_toArray, List.getElem_cons_zero, List.getElem_cons_succ, List.setIfInBounds_toArray, List.set_cons_zero, List.set_cons_succ]
      refine AUS_take (by kernel_rfl) rfl (i := 7) (oi := _) (v := ?vw901) rfl (by kernel_rfl) (by kernel_rfl) (by kernel_rfl) (fun _ _ _ h => h) (Or.inl ⟨by rfl, ?hz901⟩) hHeld ?rst901
      case hz901 => (intro wS hSw; clear hSw; go_simp; try with_reducible rfl)
      simp only [Act.put, List.getElem_toArray, List.getElem_cons_zero, List.getElem_cons_succ, List.setIfInBounds_toArray, List.set_cons_zero, List.set_cons_succ]
      refine AU_one (i := 9) (o := _) (by kernel_rfl) rfl (fun K hK => ?_)
      refine step_store_row rfl 44 (.tmp 3) (.tmp 11) rfl O #[.int .i64 (k : Int), .int .i64 (p : Int), .int .i64 D, .slice aL nL cL, .int .i64 0, .slice none 0 0, .int .i64 0, .int .i64 0, .slice none 0 0, .slice none 0 0, .int .i64 0, .int .i64 0] rfl rfl 44 _ HOdac0c1c2.out sizeO rfl (by simp [Value.oneCell']) ?_
      have ho : ∀ b, b ≠ O → (wdac0c1c2.setRow O #[.int .i64 (k : Int), .int .i64 (p : Int), .int .i64 D, .slice aL nL cL, .int .i64 0, .slice none 0 0, .int .i64 0, .int .i64 0, .slice none 0 0, .slice none 0 0, .int .i64 0, .int .i64 0]).heap[b]? = wdac0c1c2.heap[b]? := fun b hb => setRow_other wdac0c1c2 O b _ hb
      have hX2 : (wdac0c1c2.setRow O #[.int .i64 (k : Int), .int .i64 (p : Int), .int .i64 D, .slice aL nL cL, .int .i64 0, .slice none 0 0, .int .i64 0, .int .i64 0, .slice none 0 0, .slice none 0 0, .int .i64 0, .int .i64 0]).heap[X]? = some (Obj.cells #[.pointer (some ⟨R, 0, none⟩)] 76) := (ho X fun e => absurd (cells_ty (by rw [← e]; exact hHeld) HOdac0c1c2.out) (by decide)).trans hHeld
      have HE := Lib.hid (show RO w B R X Q O (ov0 k p D P ⟨aL, nL, cL⟩) t3 (wdac0c1c2.setRow O #[.int .i64 (k : Int), .int .i64 (p : Int), .int .i64 D, .slice aL nL cL, .int .i64 0, .slice none 0 0, .int .i64 0, .int .i64 0, .slice none 0 0, .slice none 0 0, .int .i64 0, .int .i64 0]) from ⟨⟨rd_row Hdac0c1c2.out.1 HOdac0c1c2.out (by decide) (by decide), grown_row Hdac0c1c2.out.2 HNO.out.1⟩, hX2, (ho Q HNO.out.2).trans HQdac0c1c2.out, setRow_heap _ O _ _ _ _ HOdac0c1c2.out, (rt0 HLodac0c1c2.out).keep fun b cur u hu _ hb => (ho b fun e => hu (cells_ty (by rw [← e]; exact hb) HOdac0c1c2.out)).trans hb, HL.out.1, HNO.out.1, HNO.out.2, HL.out.2.1⟩)
      refine hK.out _ _ (fun _ => hX2) ?_
      clear hK K ho hX2 hHeld
      try simp only [Act.put, List.getElem_toArray, List.getElem_cons_zero, List.getElem_cons_succ, List.setIfInBounds_toArray, List.set_cons_zero, List.set_cons_succ]
      refine AU_done (by kernel_rfl) ?_ _
      simp only [OnlyN]
      go_wp2_with fail
      go_meet
      exact ⟨O, aL, nL, cL, rfl, HE⟩
  case rest =>
    obtain ⟨O, aL, nL, cL, rfl, hI0⟩ := hcut
    obtain ⟨lv, elv⟩ : ∃ lv : SlV, (⟨aL, nL, cL⟩ : SlV) = lv := ⟨_, rfl⟩
    rw [elv] at hI0
    have hI := hI0
    clear elv hI0
    have f0 := hI.out.co 0 (.int .i64 (k : Int)) rfl
    go_upto_block 0 with fail
    clear f0
    go_cut [] from 14 to 50 (fun wx => ∃ o : Ov, o.m = (rKd k p D P t3).1 ∧ Hid (RO w B R X Q O o (rKd k p D P t3).2 wx))
    case first =>
      by_cases hk : k = 1
      · have e1k : ((k : Int) == 1) = true := by simp [hk]
        have hr := Lib.hid (show rKd k p D P t3 = (⟨k, p, D, P, 0, [], (Pk.nx 2 t3).1, (Pk.nx 4 (Pk.nx 2 t3).2).1, [], [], 0, 0⟩, (Pk.nx 4 (Pk.nx 2 t3).2).2) by unfold rKd; rw [if_pos hk])
        clear hk
        have cx := hI.out.cx
        have C := Lib.hid (rnum_any (n := 2) hI.out.re.1 (by omega))
        go_wp2_with fail
        refine C.out.mono ?_; rintro e w1 ⟨rfl, hre⟩
        have hc1 := hI.out.call hre
        have y := hc1.co 6 (.int .i64 0) rfl
        have z := hc1.fo 6
        have h2 := hc1.set 6 (.int .i64 ((Pk.nx 2 t3).1 : Int)) (⟨⟨k, p, D, P, 0, [], (Pk.nx 2 t3).1, 0, [], [], 0, 0⟩, lv, ⟨none, 0, 0⟩, ⟨none, 0, 0⟩, ⟨none, 0, 0⟩⟩ : Ov) rfl ⟨hc1.rt.l, hc1.rt.c, hc1.rt.d, hc1.rt.p⟩
        obtain ⟨w2, e2⟩ : ∃ w2, w1.setCell ⟨O, 6, none⟩ (.int .i64 ((Pk.nx 2 t3).1 : Int)) = w2 := ⟨_, rfl⟩
        rw [e2] at h2
        have H2 := Lib.hid h2
        clear hre C cx hc1 h2
        go_upto_region 5 with fail
        try rw [e2]
        clear e2 y z
        have cx := H2.out.cx
        have C := Lib.hid (rnum_any (n := 4) H2.out.re.1 (by omega))
        go_wp2_with fail
        refine C.out.mono ?_; rintro e w3 ⟨rfl, hre⟩
        have hc1 := H2.out.call hre
        have y := hc1.co 7 (.int .i64 0) rfl
        have z := hc1.fo 7
        have h2 := hc1.set 7 (.int .i64 ((Pk.nx 4 (Pk.nx 2 t3).2).1 : Int)) (⟨⟨k, p, D, P, 0, [], (Pk.nx 2 t3).1, (Pk.nx 4 (Pk.nx 2 t3).2).1, [], [], 0, 0⟩, lv, ⟨none, 0, 0⟩, ⟨none, 0, 0⟩, ⟨none, 0, 0⟩⟩ : Ov) rfl ⟨hc1.rt.l, hc1.rt.c, hc1.rt.d, hc1.rt.p⟩
        obtain ⟨w4, e2⟩ : ∃ w2, w3.setCell ⟨O, 7, none⟩ (.int .i64 ((Pk.nx 4 (Pk.nx 2 t3).2).1 : Int)) = w2 := ⟨_, rfl⟩
        rw [e2] at h2
        have H4 := Lib.hid h2
        clear hre C cx hc1 h2
        go_wp2_with fail
        try rw [e2]
        go_meet
        exact ⟨(⟨⟨k, p, D, P, 0, [], (Pk.nx 2 t3).1, (Pk.nx 4 (Pk.nx 2 t3).2).1, [], [], 0, 0⟩, lv, ⟨none, 0, 0⟩, ⟨none, 0, 0⟩, ⟨none, 0, 0⟩⟩ : Ov), by rw [hr.out], by rw [hr.out]; exact H4⟩
      by_cases hk2 : k = 2
      · have hkn := hk
        clear hk
        have hk := hk2
        have e1k : ((k : Int) == 1) = false := by rw [beq_eq_false_iff_ne]; omega
        have e2k : ((k : Int) == 2) = true := by simp [hk]
        have hr := Lib.hid (show rKd k p D P t3 = (⟨k, p, D, P, 0, [], (Pk.nx 1 t3).1, 0, Pk.tk (Pk.nx 2 (Pk.nx 1 t3).2).1 (Pk.nx 2 (Pk.nx 1 t3).2).2, [], 0, 0⟩, (Pk.nx (Pk.nx 2 (Pk.nx 1 t3).2).1 (Pk.nx 2 (Pk.nx 1 t3).2).2).2) by unfold rKd; rw [if_neg (by omega), if_pos hk2])
        clear hk hk2 hkn
        have cx := hI.out.cx
        have C := Lib.hid (rnum_any (n := 1) hI.out.re.1 (by omega))
        go_wp2_with fail
        refine C.out.mono ?_; rintro e w1 ⟨rfl, hre⟩
        have hc1 := hI.out.call hre
        have y := hc1.co 6 (.int .i64 0) rfl
        have z := hc1.fo 6
        have h2 := hc1.set 6 (.int .i64 ((Pk.nx 1 t3).1 : Int)) (⟨⟨k, p, D, P, 0, [], (Pk.nx 1 t3).1, 0, [], [], 0, 0⟩, lv, ⟨none, 0, 0⟩, ⟨none, 0, 0⟩, ⟨none, 0, 0⟩⟩ : Ov) rfl ⟨hc1.rt.l, hc1.rt.c, hc1.rt.d, hc1.rt.p⟩
        obtain ⟨w2, e2⟩ : ∃ w2, w1.setCell ⟨O, 6, none⟩ (.int .i64 ((Pk.nx 1 t3).1 : Int)) = w2 := ⟨_, rfl⟩
        rw [e2] at h2
        have H2 := Lib.hid h2
        clear hre C cx hc1 h2
        go_upto_region 8 with fail
        try rw [e2]
        clear e2 y z
        have HF2 := Lib.hid (fun (wS : World) (hS : wS.heap[X]? = some (Obj.cells #[.pointer (some ⟨R, 0, none⟩)] 76)) => (show wS.cell? ⟨X, 0, none⟩ = some (.pointer (some ⟨R, 0, none⟩)) from by rw [cell_of_row _ _ _ _ _ (0, 0) hS]; rfl))
        refine region_AU (Z := fun _ => false) (S := fun wS => wS.heap[X]? = some (Obj.cells #[.pointer (some ⟨R, 0, none⟩)] 76)) (by kernel_rfl) (show w2.drew.heap[X]? = _ from H2.out.x) (fun hHeld => ?_)
        refine AUS_take (by kernel_rfl) rfl (i := 0) (oi := _) (v := ?vw1001) rfl (by kernel_rfl) (by kernel_rfl) (by kernel_rfl) (fun _ _ _ h => h) (Or.inl ⟨by rfl, ?hz1001⟩) hHeld ?rst1001
        case hz1001 => (intro wS hSw; clear hSw; go_simp; try with_reducible rfl)
        simp only [Act.put, List.getElem_toArray, List.getElem_cons_zero, List.getElem_cons_succ, List.setIfInBounds_toArray, List.set_cons_zero, List.set_cons_succ]
        refine AUS_take (by kernel_rfl) rfl (i := 1) (oi := _) (v := ?vw1101) rfl (by kernel_rfl) (by kernel_rfl) (by kernel_rfl) (fun _ _ _ h => h) (Or.inl ⟨by rfl, ?hz1101⟩) hHeld ?rst1101
        case hz1101 => (intro wS hSw; obtain f0 := HF2.out wS hSw; clear hSw; go_simp; try with_reducible rfl)
        simp only [Act.put, List.getElem_toArray, List.getElem_cons_zero, List.getElem_cons_succ, List.setIfInBounds_toArray, List.set_cons_zero, List.set_cons_succ]
        refine AUS_take (by kernel_rfl) rfl (i := 2) (oi := _) (v := ?vw1201) rfl (by kernel_rfl) (by kernel_rfl) (by kernel_rfl) (fun _ _ _ h => h) (Or.inl ⟨by rfl, ?hz1201⟩) hHeld ?rst1201
        case hz1201 => (intro wS hSw; obtain f0 := HF2.out wS hSw; clear hSw; go_simp; try with_reducible rfl)
        simp only [Act.put, List.getElem_toArray, List.getElem_cons_zero, List.getElem_cons_succ, List.setIfInBounds_toArray, List.set_cons_zero, List.set_cons_succ]
        have H3 := Lib.hid (H2.out.call (show RE w2 R (Pk.nx 1 t3).2 w2.drew from ⟨H2.out.re.1.below (Below.refl _ w2).drew, grown_below (Below.refl _ w2).drew⟩))
        refine AU_one (i := 3) (o := _) (by kernel_rfl) rfl (fun K hK => ?_)
        have CC := Lib.hid (rnum_any (n := 2) H3.out.re.1 (by omega))
        clear hHeld
        go_simp
        refine CC.out.mono ?_
        rintro e w5 ⟨rfl, hre⟩
        have H5 := Lib.hid (H3.out.call hre)
        clear hre CC
        refine hK.out _ _ (fun _ => H5.out.x) ?_
        clear hK K
        try simp only [Act.put, List.getElem_toArray, List.getElem_cons_zero, List.getElem_cons_succ, List.setIfInBounds_toArray, List.set_cons_zero, List.set_cons_succ]
        refine AU_one (i := 4) (o := _) (by kernel_rfl) rfl (fun K hK => ?_)
        have CC := Lib.hid (take_any R _ _ (Pk.nx 2 (Pk.nx 1 t3).2).1 w5 H5.out.re.1)
        have hbt := Pk.tk_byte (n := (Pk.nx 2 (Pk.nx 1 t3).2).1) (s := (Pk.nx 2 (Pk.nx 1 t3).2).2) H5.out.re.1.byte
        have hln : (Pk.tk (Pk.nx 2 (Pk.nx 1 t3).2).1 (Pk.nx 2 (Pk.nx 1 t3).2).2).length ≤ 100000 := by
          have h1 := Pk.tk_len (Pk.nx 2 (Pk.nx 1 t3).2).1 (Pk.nx 2 (Pk.nx 1 t3).2).2
          have h2 := (Pk.nx_byte (n := 2) H3.out.re.1.byte).1
          omega
        have HB := Lib.hid (And.intro hbt hln)
        clear hbt hln
        go_simp
        refine CC.out.mono ?_
        rintro e w6 ⟨A6, c6, rfl, hc6, hyr, hr6, hg6⟩
        have h6 := H5.out.call (show RE w5 R _ w6 from ⟨hr6, hg6⟩)
        obtain ⟨n6, en6⟩ : ∃ n6, (Pk.tk (Pk.nx 2 (Pk.nx 1 t3).2).1 (Pk.nx 2 (Pk.nx 1 t3).2).2).length = n6 := ⟨_, rfl⟩
        have h7 := h6.set 8 (.slice A6 n6 c6) (⟨⟨k, p, D, P, 0, [], (Pk.nx 1 t3).1, 0, Pk.tk (Pk.nx 2 (Pk.nx 1 t3).2).1 (Pk.nx 2 (Pk.nx 1 t3).2).2, [], 0, 0⟩, lv, ⟨none, 0, 0⟩, ⟨A6, n6, c6⟩, ⟨none, 0, 0⟩⟩ : Ov) rfl ⟨h6.rt.l, h6.rt.c, ⟨en6, by rw [← en6]; exact hc6, hyr, HB.out.1, by rw [← en6]; exact HB.out.2⟩, h6.rt.p⟩
        have H6 := Lib.hid h6
        have H7 := Lib.hid h7
        rw [show (Pk.tk (Pk.nx 2 (Pk.nx 1 t3).2).1 ((Pk.nx 2 (Pk.nx 1 t3).2).2.1, (Pk.nx 2 (Pk.nx 1 t3).2).2.2)).length = n6 from en6]
        clear CC hc6 hyr hr6 hg6 h6 h7 en6
        refine hK.out _ _ (fun _ => H6.out.x) ?_
        clear hK K
        try simp only [Act.put, List.getElem_toArray, List.getElem_cons_zero, List.getElem_cons_succ, List.setIfInBounds_toArray, List.set_cons_zero, List.set_cons_succ]
        have hHeld := H6.out.x
        refine AUS_take (by kernel_rfl) rfl (i := 5) (oi := _) (v := ?vw1301) rfl (by kernel_rfl) (by kernel_rfl) (by kernel_rfl) (fun _ _ _ h => h) (Or.inl ⟨by rfl, ?hz1301⟩) hHeld ?rst1301
        case hz1301 => (intro wS hSw; clear hSw; go_simp; try with_reducible rfl)
        simp only [Act.put, List.getElem_toArray, List.getElem_cons_zero, List.getElem_cons_succ, List.setIfInBounds_toArray, List.set_cons_zero, List.set_cons_succ]
        clear hHeld
        have y := H6.out.co 8 (.slice none 0 0) rfl
        have z := H6.out.fo 8
        refine AU_one (i := 6) (o := _) (by kernel_rfl) rfl (fun K hK => ?_)
        go_simp
        clear y z
        refine hK.out _ _ (fun _ => H7.out.x) ?_
        clear hK K
        try simp only [Act.put, List.getElem_toArray, List.getElem_cons_zero, List.getElem_cons_succ, List.setIfInBounds_toArray, List.set_cons_zero, List.set_cons_succ]
        refine AU_done (by kernel_rfl) ?_ _
        simp only [OnlyN]
        go_wp2_with fail
        go_meet
        exact ⟨(⟨⟨k, p, D, P, 0, [], (Pk.nx 1 t3).1, 0, Pk.tk (Pk.nx 2 (Pk.nx 1 t3).2).1 (Pk.nx 2 (Pk.nx 1 t3).2).2, [], 0, 0⟩, lv, ⟨none, 0, 0⟩, ⟨A6, n6, c6⟩, ⟨none, 0, 0⟩⟩ : Ov), by rw [hr.out], by rw [hr.out]; exact H7⟩
      by_cases hk4 : k = 4
      · have hkn := hk
        clear hk
        have hk := hk4
        have e1k : ((k : Int) == 1) = false := by rw [beq_eq_false_iff_ne]; omega
        have e2k : ((k : Int) == 2) = false := by rw [beq_eq_false_iff_ne]; omega
        have e4k : ((k : Int) == 4) = true := by simp [hk]
        have hr := Lib.hid (show rKd k p D P t3 = (⟨k, p, D, P, 0, [], 0, 0, [], (rLs rMp t3).1, 0, 0⟩, (rLs rMp t3).2) by unfold rKd; rw [if_neg (by omega), if_neg (by omega), if_pos hk4]; rfl)
        clear hk hk4 hk2 hkn
        have cx := hI.out.cx
        have C := Lib.hid (lmp_any hI.out.re.1)
        go_wp2_with fail
        refine C.out.mono ?_; rintro e w1 ⟨v, rfl, xs, hrv, hm, hre, hok⟩
        have hc1 := hI.out.call hre
        have hxs : xs = (rLs rMp t3).1 := by simpa using hm
        obtain ⟨A6, c6, rfl, _⟩ := hrv.form
        obtain ⟨n6, en6⟩ : ∃ n6, xs.length = n6 := ⟨_, rfl⟩
        have hl6 : xs.length ≤ 100000 := by
          rw [hxs]
          unfold rLs
          rw [rList_len]
          have := (Pk.nx_byte (n := 1) hI.out.re.1.byte).1
          omega
        rw [en6] at hrv
        have hrv2 : RV (fun b => B ≤ b) 93 5 encM w1 (.slice A6 n6 c6) xs := hrv.keep fun b cur hb _ => ⟨Nat.le_trans hI.out.size hb, rfl⟩
        rw [en6]
        have y := hc1.co 9 (.slice none 0 0) rfl
        have z := hc1.fo 9
        have h2 := hc1.set 9 (.slice A6 n6 c6) (⟨⟨k, p, D, P, 0, [], 0, 0, [], xs, 0, 0⟩, lv, ⟨none, 0, 0⟩, ⟨none, 0, 0⟩, ⟨A6, n6, c6⟩⟩ : Ov) rfl ⟨hc1.rt.l, hc1.rt.c, hc1.rt.d, ⟨hrv2, hok, hl6⟩⟩
        have H2 := Lib.hid h2
        clear hre C cx hc1 h2 hrv hrv2 hm hok hl6 en6
        rw [← hxs] at hr
        clear hxs
        go_wp2_with fail
        go_meet
        exact ⟨(⟨⟨k, p, D, P, 0, [], 0, 0, [], xs, 0, 0⟩, lv, ⟨none, 0, 0⟩, ⟨none, 0, 0⟩, ⟨A6, n6, c6⟩⟩ : Ov), by rw [hr.out], by rw [hr.out]; exact H2⟩
      by_cases hk3 : k = 3 ∨ k = 5
      · have e1k : ((k : Int) == 1) = false := by rw [beq_eq_false_iff_ne]; omega
        have e2k : ((k : Int) == 2) = false := by rw [beq_eq_false_iff_ne]; omega
        have e4k : ((k : Int) == 4) = false := by rw [beq_eq_false_iff_ne]; omega
        have hr := Lib.hid (show rKd k p D P t3 = (⟨k, p, D, P, (Pk.ln t3).1, (Pk.ln t3).2.1, 0, 0, [], [], (Pk.nx 1 (Pk.ln t3).2.2).1, (Pk.nx 4 (Pk.nx 1 (Pk.ln t3).2.2).2).1⟩, (Pk.nx 4 (Pk.nx 1 (Pk.ln t3).2.2).2).2) by unfold rKd; rw [if_neg (by omega), if_neg (by omega), if_neg (by omega), if_pos hk3])
        have cx := hI.out.cx
        have C := Lib.hid (rlab_any (B := B) hI.out.re.1 hI.out.size)
        clear hk hk2 hk4
        obtain ⟨q3, eq3⟩ : ∃ q, ((k : Int) == 3) = q := ⟨_, rfl⟩
        have hq3 : q3 = true ∨ (q3 = false ∧ ((k : Int) == 5) = true) := by
          rcases hk3 with h | h
          · left; rw [← eq3]; simp [h]
          · right; exact ⟨by rw [← eq3, h]; rfl, by rw [h]; rfl⟩
        clear hk3
        rcases hq3 with rfl | ⟨rfl, e5k⟩
        · go_wp2_with fail
          refine C.out.mono ?_; rintro e w1 ⟨a6, n6, c6, rfl, hlo, hre⟩
          have hc1 := hI.out.call hre
          have y := hc1.co 4 (.int .i64 0) rfl
          have y5 := hc1.co 5 (.slice none 0 0) rfl
          have z := hc1.fo 4
          have z5 := hc1.fo 5
          have h2 := hc1.set 4 (.int .i64 (Pk.ln t3).1) (⟨⟨k, p, D, P, (Pk.ln t3).1, [], 0, 0, [], [], 0, 0⟩, lv, ⟨none, 0, 0⟩, ⟨none, 0, 0⟩, ⟨none, 0, 0⟩⟩ : Ov) rfl ⟨hc1.rt.l, LOv.nil _ _ _, hc1.rt.d, hc1.rt.p⟩
          have h3 := h2.set 5 (.slice a6 n6 c6) (⟨⟨k, p, D, P, (Pk.ln t3).1, (Pk.ln t3).2.1, 0, 0, [], [], 0, 0⟩, lv, ⟨a6, n6, c6⟩, ⟨none, 0, 0⟩, ⟨none, 0, 0⟩⟩ : Ov) rfl ⟨h2.rt.l, hlo.keep fun b cur _ hb => heap_setCell_other _ _ _ _ fun e => absurd (cells_ty (by rw [← show b = O from e]; exact hb) hc1.ob) (by decide), h2.rt.d, h2.rt.p⟩
          obtain ⟨w3, e2⟩ : ∃ w2, (w1.setCell ⟨O, 4, none⟩ (.int .i64 (Pk.ln t3).1)).setCell ⟨O, 5, none⟩ (.slice a6 n6 c6) = w2 := ⟨_, rfl⟩
          rw [e2] at h3
          have H3 := Lib.hid h3
          clear hre C cx hc1 h2 h3 hlo
          go_upto_region 14 with fail
          try rw [e2]
          clear e2 y z y5 z5
          have cx := H3.out.cx
          have C := Lib.hid (rnum_any (n := 1) H3.out.re.1 (by omega))
          go_wp2_with fail
          refine C.out.mono ?_; rintro e w4 ⟨rfl, hre⟩
          have hc1 := H3.out.call hre
          have y := hc1.co 10 (.int .i64 0) rfl
          have z := hc1.fo 10
          have h2 := hc1.set 10 (.int .i64 ((Pk.nx 1 (Pk.ln t3).2.2).1 : Int)) (⟨⟨k, p, D, P, (Pk.ln t3).1, (Pk.ln t3).2.1, 0, 0, [], [], (Pk.nx 1 (Pk.ln t3).2.2).1, 0⟩, lv, ⟨a6, n6, c6⟩, ⟨none, 0, 0⟩, ⟨none, 0, 0⟩⟩ : Ov) rfl ⟨hc1.rt.l, hc1.rt.c, hc1.rt.d, hc1.rt.p⟩
          obtain ⟨w5, e2⟩ : ∃ w2, w4.setCell ⟨O, 10, none⟩ (.int .i64 ((Pk.nx 1 (Pk.ln t3).2.2).1 : Int)) = w2 := ⟨_, rfl⟩
          rw [e2] at h2
          have H5 := Lib.hid h2
          clear hre C cx hc1 h2
          go_upto_region 15 with fail
          try rw [e2]
          clear e2 y z
          have cx := H5.out.cx
          have C := Lib.hid (rnum_any (n := 4) H5.out.re.1 (by omega))
          go_wp2_with fail
          refine C.out.mono ?_; rintro e w6 ⟨rfl, hre⟩
          have hc1 := H5.out.call hre
          have y := hc1.co 11 (.int .i64 0) rfl
          have z := hc1.fo 11
          have h2 := hc1.set 11 (.int .i64 ((Pk.nx 4 (Pk.nx 1 (Pk.ln t3).2.2).2).1 : Int)) (⟨⟨k, p, D, P, (Pk.ln t3).1, (Pk.ln t3).2.1, 0, 0, [], [], (Pk.nx 1 (Pk.ln t3).2.2).1, (Pk.nx 4 (Pk.nx 1 (Pk.ln t3).2.2).2).1⟩, lv, ⟨a6, n6, c6⟩, ⟨none, 0, 0⟩, ⟨none, 0, 0⟩⟩ : Ov) rfl ⟨hc1.rt.l, hc1.rt.c, hc1.rt.d, hc1.rt.p⟩
          obtain ⟨w7, e2⟩ : ∃ w2, w6.setCell ⟨O, 11, none⟩ (.int .i64 ((Pk.nx 4 (Pk.nx 1 (Pk.ln t3).2.2).2).1 : Int)) = w2 := ⟨_, rfl⟩
          rw [e2] at h2
          have H7 := Lib.hid h2
          clear hre C cx hc1 h2
          go_wp2_with fail
          try rw [e2]
          go_meet
          exact ⟨(⟨⟨k, p, D, P, (Pk.ln t3).1, (Pk.ln t3).2.1, 0, 0, [], [], (Pk.nx 1 (Pk.ln t3).2.2).1, (Pk.nx 4 (Pk.nx 1 (Pk.ln t3).2.2).2).1⟩, lv, ⟨a6, n6, c6⟩, ⟨none, 0, 0⟩, ⟨none, 0, 0⟩⟩ : Ov), by rw [hr.out], by rw [hr.out]; exact H7⟩
        · go_wp2_with fail
          refine C.out.mono ?_; rintro e w1 ⟨a6, n6, c6, rfl, hlo, hre⟩
          have hc1 := hI.out.call hre
          have y := hc1.co 4 (.int .i64 0) rfl
          have y5 := hc1.co 5 (.slice none 0 0) rfl
          have z := hc1.fo 4
          have z5 := hc1.fo 5
          have h2 := hc1.set 4 (.int .i64 (Pk.ln t3).1) (⟨⟨k, p, D, P, (Pk.ln t3).1, [], 0, 0, [], [], 0, 0⟩, lv, ⟨none, 0, 0⟩, ⟨none, 0, 0⟩, ⟨none, 0, 0⟩⟩ : Ov) rfl ⟨hc1.rt.l, LOv.nil _ _ _, hc1.rt.d, hc1.rt.p⟩
          have h3 := h2.set 5 (.slice a6 n6 c6) (⟨⟨k, p, D, P, (Pk.ln t3).1, (Pk.ln t3).2.1, 0, 0, [], [], 0, 0⟩, lv, ⟨a6, n6, c6⟩, ⟨none, 0, 0⟩, ⟨none, 0, 0⟩⟩ : Ov) rfl ⟨h2.rt.l, hlo.keep fun b cur _ hb => heap_setCell_other _ _ _ _ fun e => absurd (cells_ty (by rw [← show b = O from e]; exact hb) hc1.ob) (by decide), h2.rt.d, h2.rt.p⟩
          obtain ⟨w3, e2⟩ : ∃ w2, (w1.setCell ⟨O, 4, none⟩ (.int .i64 (Pk.ln t3).1)).setCell ⟨O, 5, none⟩ (.slice a6 n6 c6) = w2 := ⟨_, rfl⟩
          rw [e2] at h3
          have H3 := Lib.hid h3
          clear hre C cx hc1 h2 h3 hlo
          go_upto_region 14 with fail
          try rw [e2]
          clear e2 y z y5 z5
          have cx := H3.out.cx
          have C := Lib.hid (rnum_any (n := 1) H3.out.re.1 (by omega))
          go_wp2_with fail
          refine C.out.mono ?_; rintro e w4 ⟨rfl, hre⟩
          have hc1 := H3.out.call hre
          have y := hc1.co 10 (.int .i64 0) rfl
          have z := hc1.fo 10
          have h2 := hc1.set 10 (.int .i64 ((Pk.nx 1 (Pk.ln t3).2.2).1 : Int)) (⟨⟨k, p, D, P, (Pk.ln t3).1, (Pk.ln t3).2.1, 0, 0, [], [], (Pk.nx 1 (Pk.ln t3).2.2).1, 0⟩, lv, ⟨a6, n6, c6⟩, ⟨none, 0, 0⟩, ⟨none, 0, 0⟩⟩ : Ov) rfl ⟨hc1.rt.l, hc1.rt.c, hc1.rt.d, hc1.rt.p⟩
          obtain ⟨w5, e2⟩ : ∃ w2, w4.setCell ⟨O, 10, none⟩ (.int .i64 ((Pk.nx 1 (Pk.ln t3).2.2).1 : Int)) = w2 := ⟨_, rfl⟩
          rw [e2] at h2
          have H5 := Lib.hid h2
          clear hre C cx hc1 h2
          go_upto_region 15 with fail
          try rw [e2]
          clear e2 y z
          have cx := H5.out.cx
          have C := Lib.hid (rnum_any (n := 4) H5.out.re.1 (by omega))
          go_wp2_with fail
          refine C.out.mono ?_; rintro e w6 ⟨rfl, hre⟩
          have hc1 := H5.out.call hre
          have y := hc1.co 11 (.int .i64 0) rfl
          have z := hc1.fo 11
          have h2 := hc1.set 11 (.int .i64 ((Pk.nx 4 (Pk.nx 1 (Pk.ln t3).2.2).2).1 : Int)) (⟨⟨k, p, D, P, (Pk.ln t3).1, (Pk.ln t3).2.1, 0, 0, [], [], (Pk.nx 1 (Pk.ln t3).2.2).1, (Pk.nx 4 (Pk.nx 1 (Pk.ln t3).2.2).2).1⟩, lv, ⟨a6, n6, c6⟩, ⟨none, 0, 0⟩, ⟨none, 0, 0⟩⟩ : Ov) rfl ⟨hc1.rt.l, hc1.rt.c, hc1.rt.d, hc1.rt.p⟩
          obtain ⟨w7, e2⟩ : ∃ w2, w6.setCell ⟨O, 11, none⟩ (.int .i64 ((Pk.nx 4 (Pk.nx 1 (Pk.ln t3).2.2).2).1 : Int)) = w2 := ⟨_, rfl⟩
          rw [e2] at h2
          have H7 := Lib.hid h2
          clear hre C cx hc1 h2
          go_wp2_with fail
          try rw [e2]
          go_meet
          exact ⟨(⟨⟨k, p, D, P, (Pk.ln t3).1, (Pk.ln t3).2.1, 0, 0, [], [], (Pk.nx 1 (Pk.ln t3).2.2).1, (Pk.nx 4 (Pk.nx 1 (Pk.ln t3).2.2).2).1⟩, lv, ⟨a6, n6, c6⟩, ⟨none, 0, 0⟩, ⟨none, 0, 0⟩⟩ : Ov), by rw [hr.out], by rw [hr.out]; exact H7⟩
      have e1k : ((k : Int) == 1) = false := by rw [beq_eq_false_iff_ne]; omega
      have e2k : ((k : Int) == 2) = false := by rw [beq_eq_false_iff_ne]; omega
      have e4k : ((k : Int) == 4) = false := by rw [beq_eq_false_iff_ne]; omega
      have e3k : ((k : Int) == 3) = false := by rw [beq_eq_false_iff_ne]; omega
      have e5k : ((k : Int) == 5) = false := by rw [beq_eq_false_iff_ne]; omega
      have hr := Lib.hid (show rKd k p D P t3 = (⟨k, p, D, P, 0, [], 0, 0, [], [], 0, 0⟩, t3) by unfold rKd; rw [if_neg (by omega), if_neg (by omega), if_neg (by omega), if_neg (by omega)])
      clear hk hk2 hk4 hk3
      go_wp2_with fail
      go_meet
      exact ⟨ov0 k p D P lv, by rw [hr.out]; rfl, by rw [hr.out]; exact hI⟩
    case rest =>
      obtain ⟨o, hm, hJ⟩ := hcut
      obtain ⟨cs, ecs⟩ : ∃ cs, arO o = cs := ⟨_, rfl⟩
      have HV : Hid (wc.heap[O]? = some (Obj.cells cs 44)) := Lib.hid (by rw [← ecs]; exact hJ.out.ob)
      have HS : Hid ((Try.prog.info? 44).map (·.size) = some cs.size) := Lib.hid (by rw [← ecs]; exact sizeO)
      have HO : Hid (cs.all (·.oneCell') = true) := Lib.hid (by rw [← ecs]; exact arO_one o)
      have HS5 : Hid (zeroOA.size = cs.size) := Lib.hid (by rw [← ecs]; rfl)
      have HU := Lib.hid Try.underlying44
      have HEC := Lib.hid ecs
      have HMM := Lib.hid hm
      clear ecs hm
      go_wp2_with (first | with_reducible refine wpList_load_row rfl 44 (.tmp 3) rfl O rfl 44 cs (0, 0) _ HV.out HU.out rfl HS.out ?_ | with_reducible refine wpList_store_row rfl 44 (.tmp 2) (.tmp 51) rfl Q cs rfl rfl 44 zeroOA hJ.out.q HS.out HS5.out HO.out ?_)
      refine bodyPost_ret (results_cell_row (by rfl) _ _ Q 44 cs (0, 0) _ (by rfl) (setRow_heap wc Q _ _ _ _ hJ.out.q) HU.out rfl HS.out) rfl ?_
      have ho : ∀ b, b ≠ Q → (wc.setRow Q cs).heap[b]? = wc.heap[b]? := fun b hb => setRow_other wc Q b _ hb
      rw [HM.out]
      exact ⟨o, by rw [HEC.out], HMM.out, hJ.out.rt.keep fun b cur u hu _ hb => (ho b fun e => hu (cells_ty (by rw [← e]; exact hb) hJ.out.q)).trans hb, rd_row hJ.out.re.1 hJ.out.q (by decide) (by decide), grown_row hJ.out.re.2 HL.out.1⟩
end Go.Proofs.Ytmadldgajjgbmaa
