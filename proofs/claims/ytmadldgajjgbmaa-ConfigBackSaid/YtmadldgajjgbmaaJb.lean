/- alike. -/
import Derived.Test.YtmadldgajjgbmaaJa
set_option linter.unusedVariables false
set_option linter.unusedSimpArgs false
namespace Go.Proofs.Ytmadldgajjgbmaa
open Go.RowKit
set_option linter.unusedVariables false
set_option linter.unusedSimpArgs false
set_option maxHeartbeats 8000000 in
set_option maxRecDepth 100000 in
theorem alike_any {W : World} {co fr nm : Int} {A1 A2 D1 D2 : Option Addr} {l1 l2 c1 c2 d1 d2 : Nat} {xs : List Sl} {ovs ovs2 : List Ov} (h : CfR W A1 A2 l1 l2 xs ovs) (h2 : CfR W D1 D2 l1 l2 xs ovs2) (hm : ovs2.map Ov.m = ovs.map Ov.m) (hN : CfN co fr nm xs (ovs.map Ov.m)) (hb : (encCf co fr nm xs (ovs.map Ov.m)).length ≤ 100000) :
    Calls Try.prog 14 #[.agg #[.int .i64 co, .int .i64 fr, .int .i64 nm, .slice A1 l1 c1, .slice A2 l2 c2], .agg #[.int .i64 co, .int .i64 fr, .int .i64 nm, .slice D1 l1 d1, .slice D2 l2 d2]] W (BB W true) := by
  obtain ⟨wA, eA⟩ : ∃ wA, W.alloc (Obj.cells #[.int .i64 co, .int .i64 fr, .int .i64 nm, .slice A1 l1 c1, .slice A2 l2 c2] 29) = wA := ⟨_, rfl⟩
  obtain ⟨X, eX⟩ : ∃ X, W.heap.size = X := ⟨_, rfl⟩
  have hbA : Below W.heap.size W wA := by rw [← eA]; exact below_alloc1 W _
  have hXA : wA.heap[X]? = some (Obj.cells #[.int .i64 co, .int .i64 fr, .int .i64 nm, .slice A1 l1 c1, .slice A2 l2 c2] 29) := by rw [← eA, ← eX]; exact heap_alloc_new W _
  obtain ⟨w0, e0⟩ : ∃ w0, wA.alloc (Obj.cells #[.int .i64 co, .int .i64 fr, .int .i64 nm, .slice D1 l1 d1, .slice D2 l2 d2] 29) = w0 := ⟨_, rfl⟩
  obtain ⟨Y, eY⟩ : ∃ Y, wA.heap.size = Y := ⟨_, rfl⟩
  have hXY : X + 1 = Y := by rw [← eY, ← eA, ← eX]; simp
  have hb1 : Below wA.heap.size wA w0 := by rw [← e0]; exact below_alloc1 wA _
  have hY := (show w0.heap[Y]? = some (Obj.cells #[.int .i64 co, .int .i64 fr, .int .i64 nm, .slice D1 l1 d1, .slice D2 l2 d2] 29) by rw [← e0, ← eY]; exact heap_alloc_new wA _)
  have hX := (hb1.block _ (Array.getElem?_eq_some_iff.1 hXA).1).trans hXA
  have hb0 : Below W.heap.size W w0 := hbA.trans (hb1.mono hbA.size)
  obtain ⟨bs, ebs⟩ : ∃ bs, encCf co fr nm xs (ovs.map Ov.m) = bs := ⟨_, rfl⟩
  obtain ⟨st, est⟩ : ∃ st, Str bs = st := ⟨_, rfl⟩
  have HE1 := Lib.hid (show ∀ wS, Below w0.heap.size w0 wS → Calls Try.prog 12 #[.agg #[.int .i64 co, .int .i64 fr, .int .i64 nm, .slice A1 l1 c1, .slice A2 l2 c2]] wS (EncE wS bs) from fun wS hS => by
    have hE := encode_any (W := wS) (co := co) (fr := fr) (nm := nm) (c1 := c1) (c2 := c2) ((h.below hb0).below hS) hN hb
    rw [ebs] at hE
    exact hE)
  have HE2 := Lib.hid (show ∀ wS, Below w0.heap.size w0 wS → Calls Try.prog 12 #[.agg #[.int .i64 co, .int .i64 fr, .int .i64 nm, .slice D1 l1 d1, .slice D2 l2 d2]] wS (EncE wS bs) from fun wS hS => by
    have hE := encode_any (W := wS) (co := co) (fr := fr) (nm := nm) (c1 := d1) (c2 := d2) ((h2.below hb0).below hS) (by rw [hm]; exact hN) (by rw [hm]; exact hb)
    rw [hm, ebs] at hE
    exact hE)
  have HF := Lib.hid (fun (wS : World) (hS : Below w0.heap.size w0 wS) => (show wS.cell? ⟨X, 0, none⟩ = some (.int .i64 co) ∧ wS.cell? ⟨X, 1, none⟩ = some (.int .i64 fr) ∧ wS.cell? ⟨X, 2, none⟩ = some (.int .i64 nm) ∧ wS.cell? ⟨X, 3, none⟩ = some (.slice A1 l1 c1) ∧ wS.cell? ⟨X, 4, none⟩ = some (.slice A2 l2 c2) ∧ wS.cell? ⟨Y, 0, none⟩ = some (.int .i64 co) ∧ wS.cell? ⟨Y, 1, none⟩ = some (.int .i64 fr) ∧ wS.cell? ⟨Y, 2, none⟩ = some (.int .i64 nm) ∧ wS.cell? ⟨Y, 3, none⟩ = some (.slice D1 l1 d1) ∧ wS.cell? ⟨Y, 4, none⟩ = some (.slice D2 l2 d2) from by
    have h1 := (hS.block _ (Array.getElem?_eq_some_iff.1 hX).1).trans hX
    have h2 := (hS.block _ (Array.getElem?_eq_some_iff.1 hY).1).trans hY
    refine ⟨?_, ?_, ?_, ?_, ?_, ?_, ?_, ?_, ?_, ?_⟩ <;> first | (rw [cell_of_row _ _ _ _ _ (0, 0) h1]; rfl) | (rw [cell_of_row _ _ _ _ _ (0, 0) h2]; rfl)))
  have HB0 := Lib.hid hb0
  have HST := Lib.hid est
  clear h h2 hm hN hb hbA hXA hb1 hY hX hb0 ebs est
  go_enter Try.func14, Try.ntmps14
  go_upto_region 1 with fail
  try rw [eA]
  try rw [eX]
  try rw [hXY]
  try rw [e0]
  clear eA e0 eX eY hXY
  refine region_AU (Z := fun j => false) (S := fun w' => Below w0.heap.size w0 w') (by kernel_rfl) ((Below.refl _ _).drew) (fun hHeld => ?_)
  refine AUS_take (by kernel_rfl) rfl (i := 0) (oi := _) (v := ?vw101) rfl (by kernel_rfl) (by kernel_rfl) (by kernel_rfl) (fun _ _ _ h => h) (Or.inl ⟨by rfl, ?hz101⟩) hHeld ?rst101
  case hz101 => (intro wS hSw; obtain ⟨f0, f1, f2, f3, f4, f5, f6, f7, f8, f9⟩ := HF.out wS hSw; clear hSw; go_simp; try with_reducible rfl)
  simp only [Act.put, List.getElem_toArray, List.getElem_cons_zero, List.getElem_cons_succ, List.setIfInBounds_toArray, List.set_cons_zero, List.set_cons_succ]
  refine AUS_take (by kernel_rfl) rfl (i := 3) (oi := _) (v := ?vw102) rfl (by kernel_rfl) (by kernel_rfl) (by kernel_rfl) (fun _ _ _ h => h) (Or.inl ⟨by rfl, ?hz102⟩) hHeld ?rst102
  case hz102 => (intro wS hSw; obtain ⟨f0, f1, f2, f3, f4, f5, f6, f7, f8, f9⟩ := HF.out wS hSw; clear hSw; go_simp; try with_reducible rfl)
  simp only [Act.put, List.getElem_toArray, List.getElem_cons_zero, List.getElem_cons_succ, List.setIfInBounds_toArray, List.set_cons_zero, List.set_cons_succ]
  refine AU_one (i := 1) (o := _) (by kernel_rfl) rfl (fun K hK => ?_)
  have HHwz1 := Lib.hid hHeld
  have CC := Lib.hid (HE1.out _ hHeld)
  clear hHeld
  go_simp
  refine CC.out.mono ?_
  rintro e wz1 ⟨ae, ce, rfl, hrw, h256, hb⟩
  have hHeld := HHwz1.out.trans (hb.mono HHwz1.out.size)
  have hcv := conv_bytes wz1 ae bs.length ce bs rfl (EncE.br hrw).1
  rw [HST.out] at hcv
  have HC1 := Lib.hid (And.intro (And.intro hcv (EncE.br hrw).1) hb)
  clear hcv CC hrw h256 hb HHwz1
  refine hK.out _ _ (fun _ => hHeld) ?_
  clear hK K
  try simp only [Act.put, List.getElem_toArray, List.getElem_cons_zero, List.getElem_cons_succ, List.setIfInBounds_toArray, List.set_cons_zero, List.set_cons_succ]
  refine AU_two (i := 2) (j := 4) (oi := _) (oj := _) (by kernel_rfl) rfl rfl (fun K hK => ?_) (fun K hK => ?_)
  · have f5 := HC1.out.1.1
    go_simp
    clear f5
    refine hK.out _ _ (fun _ => hHeld) ?_
    clear hK K
    try simp only [Act.put, List.getElem_toArray, List.getElem_cons_zero, List.getElem_cons_succ, List.setIfInBounds_toArray, List.set_cons_zero, List.set_cons_succ]
    refine AU_one (i := 4) (o := _) (by kernel_rfl) rfl (fun K hK => ?_)
    have HHwz2 := Lib.hid hHeld
    have CC := Lib.hid (HE2.out _ hHeld)
    clear hHeld
    go_simp
    refine CC.out.mono ?_
    rintro e wz2 ⟨ae2, ce2, rfl, hrw, h256, hb⟩
    have hHeld := HHwz2.out.trans (hb.mono HHwz2.out.size)
    have hcv := conv_bytes wz2 ae2 bs.length ce2 bs rfl (EncE.br hrw).1
    rw [HST.out] at hcv
    have HC2 := Lib.hid (And.intro (And.intro hcv (EncE.br hrw).1) hb)
    clear hcv CC hrw h256 hb HHwz2
    refine hK.out _ _ (fun _ => hHeld) ?_
    clear hK K
    try simp only [Act.put, List.getElem_toArray, List.getElem_cons_zero, List.getElem_cons_succ, List.setIfInBounds_toArray, List.set_cons_zero, List.set_cons_succ]
    refine AU_one (i := 5) (o := _) (by kernel_rfl) rfl (fun K hK => ?_)
    have f5 := HC2.out.1.1
    go_simp
    clear f5
    refine hK.out _ _ (fun _ => hHeld) ?_
    clear hK K
    try simp only [Act.put, List.getElem_toArray, List.getElem_cons_zero, List.getElem_cons_succ, List.setIfInBounds_toArray, List.set_cons_zero, List.set_cons_succ]
    refine AUS_take (by kernel_rfl) rfl (i := 6) (oi := _) (v := ?vw401) rfl (by kernel_rfl) (by kernel_rfl) (by kernel_rfl) (fun _ _ _ h => h) (Or.inl ⟨by rfl, ?hz401⟩) hHeld ?rst401
    case hz401 => (intro wS hSw; clear hSw; go_simp; try with_reducible rfl)
    simp only [Act.put, List.getElem_toArray, List.getElem_cons_zero, List.getElem_cons_succ, List.setIfInBounds_toArray, List.set_cons_zero, List.set_cons_succ]
    refine AUS_take (by kernel_rfl) rfl (i := 7) (oi := _) (v := ?vw501) rfl (by kernel_rfl) (by kernel_rfl) (by kernel_rfl) (fun _ _ _ h => h) (Or.inl ⟨by rfl, ?hz501⟩) hHeld ?rst501
    case hz501 => (intro wS hSw; clear hSw; go_simp; try with_reducible rfl)
    simp only [Act.put, List.getElem_toArray, List.getElem_cons_zero, List.getElem_cons_succ, List.setIfInBounds_toArray, List.set_cons_zero, List.set_cons_succ]
    refine AU_done (by kernel_rfl) ?_ _
    simp only [OnlyN]
    have HFin := Lib.hid (HB0.out.trans (hHeld.mono HB0.out.size))
    clear hHeld
    go_wp2_with fail
    go_ret
    exact ⟨by simp, HFin.out⟩
  · have HHwz2 := Lib.hid hHeld
    have CC := Lib.hid (HE2.out _ hHeld)
    clear hHeld
    go_simp
    refine CC.out.mono ?_
    rintro e wz2 ⟨ae2, ce2, rfl, hrw, h256, hb⟩
    have hHeld := HHwz2.out.trans (hb.mono HHwz2.out.size)
    have hcv := conv_bytes wz2 ae2 bs.length ce2 bs rfl (EncE.br hrw).1
    rw [HST.out] at hcv
    have HC2 := Lib.hid (And.intro (And.intro hcv (EncE.br hrw).1) hb)
    clear hcv CC hrw h256 hb HHwz2
    refine hK.out _ _ (fun _ => hHeld) ?_
    clear hK K
    try simp only [Act.put, List.getElem_toArray, List.getElem_cons_zero, List.getElem_cons_succ, List.setIfInBounds_toArray, List.set_cons_zero, List.set_cons_succ]
    have hcv1 := conv_bytes wz2 ae bs.length ce bs rfl (HC1.out.1.2.below HC2.out.2)
    rw [HST.out] at hcv1
    have HC3 := Lib.hid hcv1
    clear hcv1
    refine AU_two (i := 2) (j := 5) (oi := _) (oj := _) (by kernel_rfl) rfl rfl (fun K hK => ?_) (fun K hK => ?_)
    · have f5 := HC3.out
      go_simp
      clear f5
      refine hK.out _ _ (fun _ => hHeld) ?_
      clear hK K
      try simp only [Act.put, List.getElem_toArray, List.getElem_cons_zero, List.getElem_cons_succ, List.setIfInBounds_toArray, List.set_cons_zero, List.set_cons_succ]
      refine AU_one (i := 5) (o := _) (by kernel_rfl) rfl (fun K hK => ?_)
      have f5 := HC2.out.1.1
      go_simp
      clear f5
      refine hK.out _ _ (fun _ => hHeld) ?_
      clear hK K
      try simp only [Act.put, List.getElem_toArray, List.getElem_cons_zero, List.getElem_cons_succ, List.setIfInBounds_toArray, List.set_cons_zero, List.set_cons_succ]
      refine AUS_take (by kernel_rfl) rfl (i := 6) (oi := _) (v := ?vw601) rfl (by kernel_rfl) (by kernel_rfl) (by kernel_rfl) (fun _ _ _ h => h) (Or.inl ⟨by rfl, ?hz601⟩) hHeld ?rst601
      case hz601 => (intro wS hSw; clear hSw; go_simp; try with_reducible rfl)
      simp only [Act.put, List.getElem_toArray, List.getElem_cons_zero, List.getElem_cons_succ, List.setIfInBounds_toArray, List.set_cons_zero, List.set_cons_succ]
      refine AUS_take (by kernel_rfl) rfl (i := 7) (oi := _) (v := ?vw701) rfl (by kernel_rfl) (by kernel_rfl) (by kernel_rfl) (fun _ _ _ h => h) (Or.inl ⟨by rfl, ?hz701⟩) hHeld ?rst701
      case hz701 => (intro wS hSw; clear hSw; go_simp; try with_reducible rfl)
      simp only [Act.put, List.getElem_toArray, List.getElem_cons_zero, List.getElem_cons_succ, List.setIfInBounds_toArray, List.set_cons_zero, List.set_cons_succ]
      refine AU_done (by kernel_rfl) ?_ _
      simp only [OnlyN]
      have HFin := Lib.hid (HB0.out.trans (hHeld.mono HB0.out.size))
      clear hHeld
      go_wp2_with fail
      go_ret
      exact ⟨by simp, HFin.out⟩
    · have f5 := HC2.out.1.1
      go_simp
      clear f5
      refine hK.out _ _ (fun _ => hHeld) ?_
      clear hK K
      try simp only [Act.put, List.getElem_toArray, List.getElem_cons_zero, List.getElem_cons_succ, List.setIfInBounds_toArray, List.set_cons_zero, List.set_cons_succ]
      refine AU_one (i := 2) (o := _) (by kernel_rfl) rfl (fun K hK => ?_)
      have f5 := HC3.out
      go_simp
      clear f5
      refine hK.out _ _ (fun _ => hHeld) ?_
      clear hK K
      try simp only [Act.put, List.getElem_toArray, List.getElem_cons_zero, List.getElem_cons_succ, List.setIfInBounds_toArray, List.set_cons_zero, List.set_cons_succ]
      refine AUS_take (by kernel_rfl) rfl (i := 6) (oi := _) (v := ?vw801) rfl (by kernel_rfl) (by kernel_rfl) (by kernel_rfl) (fun _ _ _ h => h) (Or.inl ⟨by rfl, ?hz801⟩) hHeld ?rst801
      case hz801 => (intro wS hSw; clear hSw; go_simp; try with_reducible rfl)
      simp only [Act.put, List.getElem_toArray, List.getElem_cons_zero, List.getElem_cons_succ, List.setIfInBounds_toArray, List.set_cons_zero, List.set_cons_succ]
      refine AUS_take (by kernel_rfl) rfl (i := 7) (oi := _) (v := ?vw901) rfl (by kernel_rfl) (by kernel_rfl) (by kernel_rfl) (fun _ _ _ h => h) (Or.inl ⟨by rfl, ?hz901⟩) hHeld ?rst901
      case hz901 => (intro wS hSw; clear hSw; go_simp; try with_reducible rfl)
      simp only [Act.put, List.getElem_toArray, List.getElem_cons_zero, List.getElem_cons_succ, List.setIfInBounds_toArray, List.set_cons_zero, List.set_cons_succ]
      refine AU_done (by kernel_rfl) ?_ _
      simp only [OnlyN]
      have HFin := Lib.hid (HB0.out.trans (hHeld.mono HB0.out.size))
      clear hHeld
      go_wp2_with fail
      go_ret
      exact ⟨by simp, HFin.out⟩
end Go.Proofs.Ytmadldgajjgbmaa
