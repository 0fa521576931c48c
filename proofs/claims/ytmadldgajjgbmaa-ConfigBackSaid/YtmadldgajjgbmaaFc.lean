/- config's writer: segments, address spaces; any object. -/
import Derived.Test.YtmadldgajjgbmaaFb
set_option linter.unusedVariables false
set_option linter.unusedSimpArgs false
namespace Go.Proofs.Ytmadldgajjgbmaa
open Go.RowKit
set_option linter.unusedVariables false
set_option linter.unusedSimpArgs false
/-- All but bytes and writers is as it was. -/
def SN (w w' : World) : Prop := ∀ (b : Nat) (cur : Array Value) (u : TypeId), u ≠ 5 → u ≠ 70 → w.heap[b]? = some (Obj.cells cur u) → w'.heap[b]? = some (Obj.cells cur u)
theorem SN.of_below {w w' : World} (h : Below w.heap.size w w') : SN w w' := fun b cur u _ _ hb => (h.block b (Array.getElem?_eq_some_iff.1 hb).1).trans hb
set_option maxHeartbeats 4000000 in
set_option maxRecDepth 100000 in
theorem wobj_2 {W0 wb w : World} {B WB : Nat} {al : List Nat} {pa lD cD pg nm sp pc : Int} {la ca da ma : Option Addr} {ln lc cn cc dn dc mn mc : Nat} {lP cP : LP} {dl : List Nat} {mp : List Mp} (h : WS W0 B WB wb al w)
    (ho : Ov.Rd W0 ⟨⟨2, pa, lD, lP, cD, cP, pg, nm, dl, mp, sp, pc⟩, ⟨la, ln, lc⟩, ⟨ca, cn, cc⟩, ⟨da, dn, dc⟩, ⟨ma, mn, mc⟩⟩) (hr : OmR ⟨2, pa, lD, lP, cD, cP, pg, nm, dl, mp, sp, pc⟩) (hb : al.length + (encOm ⟨2, pa, lD, lP, cD, cP, pg, nm, dl, mp, sp, pc⟩).length ≤ 100000) :
    Calls Try.prog 27 #[.pointer (some ⟨WB, 0, none⟩), .agg #[.int .i64 2, .int .i64 pa, .int .i64 lD, .slice la ln lc, .int .i64 cD, .slice ca cn cc, .int .i64 pg, .int .i64 nm, .slice da dn dc, .slice ma mn mc, .int .i64 sp, .int .i64 pc]] w fun e w' => e = .returned (.tuple #[]) ∧ WS W0 B WB wb (al ++ encOm ⟨2, pa, lD, lP, cD, cP, pg, nm, dl, mp, sp, pc⟩) w' := by
  obtain ⟨w0, e0⟩ : ∃ w0, w.alloc (Obj.cells #[.int .i64 2, .int .i64 pa, .int .i64 lD, .slice la ln lc, .int .i64 cD, .slice ca cn cc, .int .i64 pg, .int .i64 nm, .slice da dn dc, .slice ma mn mc, .int .i64 sp, .int .i64 pc] 44) = w0 := ⟨_, rfl⟩
  obtain ⟨X, eX⟩ : ∃ X, w.heap.size = X := ⟨_, rfl⟩
  have hX : w0.heap[X]? = some (Obj.cells #[.int .i64 2, .int .i64 pa, .int .i64 lD, .slice la ln lc, .int .i64 cD, .slice ca cn cc, .int .i64 pg, .int .i64 nm, .slice da dn dc, .slice ma mn mc, .int .i64 sp, .int .i64 pc] 44) := by rw [← e0, ← eX]; exact heap_alloc_new w _
  have h1 := h.box (cs := #[.int .i64 2, .int .i64 pa, .int .i64 lD, .slice la ln lc, .int .i64 cD, .slice ca cn cc, .int .i64 pg, .int .i64 nm, .slice da dn dc, .slice ma mn mc, .int .i64 sp, .int .i64 pc]) (u := 44)
  have h2 := fun (al' : List Nat) (w' : World) => h.unbox (cs := #[.int .i64 2, .int .i64 pa, .int .i64 lD, .slice la ln lc, .int .i64 cD, .slice ca cn cc, .int .i64 pg, .int .i64 nm, .slice da dn dc, .slice ma mn mc, .int .i64 sp, .int .i64 pc]) (u := 44) (al' := al') (w' := w')
  rw [e0] at h1 h2
  have HU := Lib.hid h2
  have HX := Lib.hid hX
  have HO := Lib.hid (And.intro ho (And.intro hr hb))
  have HS := Lib.hid h1
  have hbl := hb
  rw [encOm_len] at hbl
  have HL := Lib.hid hbl
  have hc := fun (al' : List Nat) (w' : World) (hw : WS W0 B WB w0 al' w') => hw.cell hX (by decide) (by decide)
  have HC := Lib.hid hc
  clear h ho hr hb hX h1 h2 hbl hc
  go_enter Try.func27, Try.ntmps27
  go_upto_region 1 with fail
  try rw [e0]
  try rw [eX]
  clear e0 eX
  have x0 := HC.out _ _ HS.out 0 (.int .i64 2) rfl
  have x1 := HC.out _ _ HS.out 1 (.int .i64 pa) rfl
  have C := Lib.hid (HS.out.two (n := 1) (x := 2) (y := pa) (by have := HO.out.2.1.k; simp only at this; omega) (by have := HO.out.2.1.p; simp only at this; omega) (by omega) (by have := HL.out; omega))
  go_wp2_with fail
  refine C.out.mono ?_; rintro e w1 ⟨rfl, hs⟩
  have HS1 := Lib.hid hs
  clear hs C HS x0 x1
  have x2 := HC.out _ _ HS1.out 2 (.int .i64 lD) rfl
  have x3 := HC.out _ _ HS1.out 3 (.slice la ln lc) rfl
  have C := Lib.hid (HS1.out.label HO.out.1.l HO.out.2.1.l (by have := HL.out; simp only [List.length_append, Pk.enc_len]; omega))
  go_wp2_with fail
  refine C.out.mono ?_; rintro e w2 ⟨rfl, hs⟩
  have HS2 := Lib.hid hs
  clear hs C HS1 x2 x3
  have x0 := HC.out _ _ HS2.out 0 (.int .i64 2) rfl
  have x6 := HC.out _ _ HS2.out 6 (.int .i64 pg) rfl
  have C := Lib.hid (HS2.out.one (n := 1) (x := pg) (by have := (HO.out.2.1.k2 rfl).1; simp only at this; omega) (by omega) (by have := HL.out; simp [encK, Pk.enc_len] at this; simp only [List.length_append, Pk.enc_len]; omega))
  go_wp2_with fail
  refine C.out.mono ?_; rintro e w3 ⟨rfl, hs⟩
  have HS3 := Lib.hid hs
  clear hs C HS2 x6 x0
  have hdl : dl.length = dn := HO.out.1.d.1
  have x8 := HC.out _ _ HS3.out 8 (.slice da dn dc) rfl
  have C := Lib.hid (HS3.out.one (n := 2) (x := (dn : Int)) (by have := (HO.out.2.1.k2 rfl).2; simp only at this; omega) (by omega) (by have := HL.out; simp [encK, Pk.enc_len] at this; simp only [List.length_append, Pk.enc_len]; omega))
  go_wp2_with fail
  refine C.out.mono ?_; rintro e wr ⟨rfl, hs⟩
  have HS4 := Lib.hid hs
  clear hs C HS3 x8
  obtain ⟨a4, ea4⟩ : ∃ a4, al ++ (Pk.enc 1 (Int.toNat 2) ++ Pk.enc 1 pa.toNat) ++ Pk.lab lD lP ++ Pk.enc 1 pg.toNat ++ Pk.enc 2 (dn : Int).toNat = a4 := ⟨_, rfl⟩
  rw [ea4] at HS4
  have hl4 : a4.length + dl.length ≤ 100000 := by
    rw [← ea4]
    have := HL.out
    simp [encK, Pk.enc_len] at this
    simp only [List.length_append, Pk.enc_len]
    omega
  obtain ⟨aw, cw, hwb, hrw, h256⟩ := HS4.out.wr
  obtain ⟨la', ela⟩ : ∃ la', a4.length = la' := ⟨_, rfl⟩
  rw [ela] at hwb hrw
  have HW := Lib.hid (And.intro hwb (And.intro hrw (And.intro h256 (And.intro hl4 ela))))
  have HD := Lib.hid (And.intro hdl ea4)
  clear hwb hrw h256 hl4 ela ea4
  go_upto_region 10 with fail
  have HF := Lib.hid (fun (wS : World) (hS : SW wr wS) => (show wS.cell? ⟨WB, 0, none⟩ = some (.slice aw la' cw) ∧ wS.cell? ⟨X, 8, none⟩ = some (.slice da dn dc) from ⟨by rw [cell_of_row _ _ _ _ _ (0, 0) (hS _ _ _ (by decide) HW.out.1)]; rfl, by rw [cell_of_row _ _ _ _ _ (0, 0) (hS _ _ _ (by decide) (HS4.out.k.k X _ _ (by decide) (by decide) HX.out))]; rfl⟩))
  clear hdl
  refine region_AU (Z := fun j => j == 10) (S := SW wr) (by kernel_rfl) (SW.of_below (Below.refl _ wr).drew) (fun hHeld => ?_)
  refine AUS_take (by kernel_rfl) rfl (i := 0) (oi := _) (v := ?vw101) rfl (by kernel_rfl) (by kernel_rfl) (by kernel_rfl) (fun _ _ _ h => h) (Or.inl ⟨by rfl, ?hz101⟩) hHeld ?rst101
  case hz101 => (intro wS hSw; clear hSw; go_simp; try with_reducible rfl)
  simp only [Act.put, List.getElem_toArray, List.getElem_cons_zero, List.getElem_cons_succ, List.setIfInBounds_toArray, List.set_cons_zero, List.set_cons_succ]
  refine AUS_take (by kernel_rfl) rfl (i := 1) (oi := _) (v := ?vw102) rfl (by kernel_rfl) (by kernel_rfl) (by kernel_rfl) (fun _ _ _ h => h) (Or.inl ⟨by rfl, ?hz102⟩) hHeld ?rst102
  case hz102 => (intro wS hSw; clear hSw; go_simp; try with_reducible rfl)
  simp only [Act.put, List.getElem_toArray, List.getElem_cons_zero, List.getElem_cons_succ, List.setIfInBounds_toArray, List.set_cons_zero, List.set_cons_succ]
  refine AUS_take (by kernel_rfl) rfl (i := 2) (oi := _) (v := ?vw103) rfl (by kernel_rfl) (by kernel_rfl) (by kernel_rfl) (fun _ _ _ h => h) (Or.inl ⟨by rfl, ?hz103⟩) hHeld ?rst103
  case hz103 => (intro wS hSw; clear hSw; go_simp; try with_reducible rfl)
  simp only [Act.put, List.getElem_toArray, List.getElem_cons_zero, List.getElem_cons_succ, List.setIfInBounds_toArray, List.set_cons_zero, List.set_cons_succ]
  refine AUS_take (by kernel_rfl) rfl (i := 3) (oi := _) (v := ?vw104) rfl (by kernel_rfl) (by kernel_rfl) (by kernel_rfl) (fun _ _ _ h => h) (Or.inl ⟨by rfl, ?hz104⟩) hHeld ?rst104
  case hz104 => (intro wS hSw; clear hSw; go_simp; try with_reducible rfl)
  simp only [Act.put, List.getElem_toArray, List.getElem_cons_zero, List.getElem_cons_succ, List.setIfInBounds_toArray, List.set_cons_zero, List.set_cons_succ]
  refine AUS_take (by kernel_rfl) rfl (i := 4) (oi := _) (v := ?vw105) rfl (by kernel_rfl) (by kernel_rfl) (by kernel_rfl) (fun _ _ _ h => h) (Or.inl ⟨by rfl, ?hz105⟩) hHeld ?rst105
  case hz105 => (intro wS hSw; obtain ⟨f0, f1⟩ := HF.out wS hSw; clear hSw; go_simp; try with_reducible rfl)
  simp only [Act.put, List.getElem_toArray, List.getElem_cons_zero, List.getElem_cons_succ, List.setIfInBounds_toArray, List.set_cons_zero, List.set_cons_succ]
  refine AUS_take (by kernel_rfl) rfl (i := 5) (oi := _) (v := ?vw106) rfl (by kernel_rfl) (by kernel_rfl) (by kernel_rfl) (fun _ _ _ h => h) (Or.inl ⟨by rfl, ?hz106⟩) hHeld ?rst106
  case hz106 => (intro wS hSw; clear hSw; go_simp; try with_reducible rfl)
  simp only [Act.put, List.getElem_toArray, List.getElem_cons_zero, List.getElem_cons_succ, List.setIfInBounds_toArray, List.set_cons_zero, List.set_cons_succ]
  refine AUS_take (by kernel_rfl) rfl (i := 6) (oi := _) (v := ?vw107) rfl (by kernel_rfl) (by kernel_rfl) (by kernel_rfl) (fun _ _ _ h => h) (Or.inl ⟨by rfl, ?hz107⟩) hHeld ?rst107
  case hz107 => (intro wS hSw; obtain ⟨f0, f1⟩ := HF.out wS hSw; clear hSw; go_simp; try with_reducible rfl)
  simp only [Act.put, List.getElem_toArray, List.getElem_cons_zero, List.getElem_cons_succ, List.setIfInBounds_toArray, List.set_cons_zero, List.set_cons_succ]
  obtain ⟨a', c', l', el', w2, hrun, hsw, hcell, hfr, hW2, hK2⟩ := Wr.step (ys := dl) (A2 := da) (c2 := dc) 33 HS4.out.hB HS4.out.size (Below.refl _ wr).drew HW.out.2.2.2.2 HW.out.1 HW.out.2.1 HW.out.2.2.1 HO.out.1.d.2.2.2.1 HW.out.2.2.2.1 HD.out.1 HO.out.1.d.2.1 ((HO.out.1.below (HS4.out.base.trans ((Below.refl _ wr).drew.mono HS4.out.base.size))).d.2.2.1)
  have HE := Lib.hid (show WS W0 B WB w0 (a4 ++ dl) _ from ⟨hW2, HS4.out.k.trans hK2, HS4.out.hB, HS4.out.hb, HS4.out.b0, HS4.out.h0⟩)
  have HR := Lib.hid hrun
  clear hW2 hK2 hrun el' hHeld

  refine AU_one (i := 7) (o := _) (by kernel_rfl) rfl (fun K hK => ?_)
  refine step_append rfl (.tmp 48) (.tmp 50) 33 33 rfl _ _ _ rfl rfl w2 HR.out ?_
  refine hK.out _ _ (fun _ => hsw) ?_
  clear hK K HR
  try simp only [Act.put, List.getElem_toArray, List.getElem_cons_zero, List.getElem_cons_succ, List.setIfInBounds_toArray, List.set_cons_zero, List.set_cons_succ]
  refine AU_one (i := 8) (o := _) (by kernel_rfl) rfl (fun K hK => ?_)
  go_simp
  refine hK.out _ _ (fun _ => hsw) ?_
  clear hK K
  try simp only [Act.put, List.getElem_toArray, List.getElem_cons_zero, List.getElem_cons_succ, List.setIfInBounds_toArray, List.set_cons_zero, List.set_cons_succ]
  refine AU_one (i := 9) (o := _) (by kernel_rfl) rfl (fun K hK => ?_)
  go_simp
  refine hK.out _ _ (fun _ => hsw) ?_
  clear hK K
  try simp only [Act.put, List.getElem_toArray, List.getElem_cons_zero, List.getElem_cons_succ, List.setIfInBounds_toArray, List.set_cons_zero, List.set_cons_succ]
  refine AU_one (i := 10) (o := _) (by kernel_rfl) rfl (fun K hK => ?_)
  go_simp
  refine hK.out _ _ (fun h => absurd h (by decide)) ?_
  clear hK K
  try simp only [Act.put, List.getElem_toArray, List.getElem_cons_zero, List.getElem_cons_succ, List.setIfInBounds_toArray, List.set_cons_zero, List.set_cons_succ]
  refine AU_done (by kernel_rfl) ?_ _
  simp only [OnlyN]
  clear hsw hcell hfr
  go_wp2_with fail
  go_end0
  exact ⟨rfl, HU.out _ _ (by have := HE.out; rw [← HD.out.2] at this; simpa [encOm, encK, HD.out.1, List.append_assoc] using this)⟩
set_option maxHeartbeats 4000000 in
set_option maxRecDepth 100000 in
theorem wobj_4 {W0 wb w : World} {B WB : Nat} {al : List Nat} {pa lD cD pg nm sp pc : Int} {la ca da ma : Option Addr} {ln lc cn cc dn dc mn mc : Nat} {lP cP : LP} {dl : List Nat} {mp : List Mp} (h : WS W0 B WB wb al w)
    (ho : Ov.Rd W0 ⟨⟨4, pa, lD, lP, cD, cP, pg, nm, dl, mp, sp, pc⟩, ⟨la, ln, lc⟩, ⟨ca, cn, cc⟩, ⟨da, dn, dc⟩, ⟨ma, mn, mc⟩⟩) (hr : OmR ⟨4, pa, lD, lP, cD, cP, pg, nm, dl, mp, sp, pc⟩) (hb : al.length + (encOm ⟨4, pa, lD, lP, cD, cP, pg, nm, dl, mp, sp, pc⟩).length ≤ 100000) :
    Calls Try.prog 27 #[.pointer (some ⟨WB, 0, none⟩), .agg #[.int .i64 4, .int .i64 pa, .int .i64 lD, .slice la ln lc, .int .i64 cD, .slice ca cn cc, .int .i64 pg, .int .i64 nm, .slice da dn dc, .slice ma mn mc, .int .i64 sp, .int .i64 pc]] w fun e w' => e = .returned (.tuple #[]) ∧ WS W0 B WB wb (al ++ encOm ⟨4, pa, lD, lP, cD, cP, pg, nm, dl, mp, sp, pc⟩) w' := by
  obtain ⟨w0, e0⟩ : ∃ w0, w.alloc (Obj.cells #[.int .i64 4, .int .i64 pa, .int .i64 lD, .slice la ln lc, .int .i64 cD, .slice ca cn cc, .int .i64 pg, .int .i64 nm, .slice da dn dc, .slice ma mn mc, .int .i64 sp, .int .i64 pc] 44) = w0 := ⟨_, rfl⟩
  obtain ⟨X, eX⟩ : ∃ X, w.heap.size = X := ⟨_, rfl⟩
  have hX : w0.heap[X]? = some (Obj.cells #[.int .i64 4, .int .i64 pa, .int .i64 lD, .slice la ln lc, .int .i64 cD, .slice ca cn cc, .int .i64 pg, .int .i64 nm, .slice da dn dc, .slice ma mn mc, .int .i64 sp, .int .i64 pc] 44) := by rw [← e0, ← eX]; exact heap_alloc_new w _
  have h1 := h.box (cs := #[.int .i64 4, .int .i64 pa, .int .i64 lD, .slice la ln lc, .int .i64 cD, .slice ca cn cc, .int .i64 pg, .int .i64 nm, .slice da dn dc, .slice ma mn mc, .int .i64 sp, .int .i64 pc]) (u := 44)
  have h2 := fun (al' : List Nat) (w' : World) => h.unbox (cs := #[.int .i64 4, .int .i64 pa, .int .i64 lD, .slice la ln lc, .int .i64 cD, .slice ca cn cc, .int .i64 pg, .int .i64 nm, .slice da dn dc, .slice ma mn mc, .int .i64 sp, .int .i64 pc]) (u := 44) (al' := al') (w' := w')
  rw [e0] at h1 h2
  have HU := Lib.hid h2
  have HX := Lib.hid hX
  have HO := Lib.hid (And.intro ho (And.intro hr hb))
  have HS := Lib.hid h1
  have hbl := hb
  rw [encOm_len] at hbl
  have HL := Lib.hid hbl
  have hc := fun (al' : List Nat) (w' : World) (hw : WS W0 B WB w0 al' w') => hw.cell hX (by decide) (by decide)
  have HC := Lib.hid hc
  clear h ho hr hb hX h1 h2 hbl hc
  go_enter Try.func27, Try.ntmps27
  go_upto_region 1 with fail
  try rw [e0]
  try rw [eX]
  clear e0 eX
  have x0 := HC.out _ _ HS.out 0 (.int .i64 4) rfl
  have x1 := HC.out _ _ HS.out 1 (.int .i64 pa) rfl
  have C := Lib.hid (HS.out.two (n := 1) (x := 4) (y := pa) (by have := HO.out.2.1.k; simp only at this; omega) (by have := HO.out.2.1.p; simp only at this; omega) (by omega) (by have := HL.out; omega))
  go_wp2_with fail
  refine C.out.mono ?_; rintro e w1 ⟨rfl, hs⟩
  have HS1 := Lib.hid hs
  clear hs C HS x0 x1
  have x2 := HC.out _ _ HS1.out 2 (.int .i64 lD) rfl
  have x3 := HC.out _ _ HS1.out 3 (.slice la ln lc) rfl
  have C := Lib.hid (HS1.out.label HO.out.1.l HO.out.2.1.l (by have := HL.out; simp only [List.length_append, Pk.enc_len]; omega))
  go_wp2_with fail
  refine C.out.mono ?_; rintro e w2 ⟨rfl, hs⟩
  have HS2 := Lib.hid hs
  clear hs C HS1 x2 x3
  have x0 := HC.out _ _ HS2.out 0 (.int .i64 4) rfl
  have hml : mp.length = mn := HO.out.1.p.1
  have x9 := HC.out _ _ HS2.out 9 (.slice ma mn mc) rfl
  have C := Lib.hid (HS2.out.one (n := 1) (x := (mn : Int)) (by have := (HO.out.2.1.k4 rfl).1; simp only at this; omega) (by omega) (by have := HL.out; simp [encK, Pk.enc_len] at this; simp only [List.length_append, Pk.enc_len]; omega))
  go_wp2_with fail
  refine C.out.mono ?_; rintro e w3 ⟨rfl, hs⟩
  have HS3 := Lib.hid hs
  clear hs C HS2 x9 x0
  obtain ⟨a4, ea4⟩ : ∃ a4, al ++ (Pk.enc 1 (Int.toNat 4) ++ Pk.enc 1 pa.toNat) ++ Pk.lab lD lP ++ Pk.enc 1 (mn : Int).toNat = a4 := ⟨_, rfl⟩
  rw [ea4] at HS3
  have hfl : ∀ l : List Mp, (l.flatMap encMp).length = 10 * l.length := by
    intro l
    induction l with
    | nil => rfl
    | cons y r ih => rw [List.flatMap_cons, List.length_append, ih, List.length_cons]; simp [encMp, Pk.enc_len]; omega
  have hl4 : a4.length + 10 * mn ≤ 100000 := by
    rw [← ea4]
    have := HL.out
    simp [encK, Pk.enc_len, hfl, hml] at this
    simp only [List.length_append, Pk.enc_len]
    omega
  have HD := Lib.hid (And.intro hml (And.intro ea4 (And.intro hfl hl4)))
  have hmn : mn ≤ 100000 := by omega
  have HM := Lib.hid hmn
  clear ea4 hfl hl4 hml hmn
  have x9 := HC.out _ _ HS3.out 9 (.slice ma mn mc) rfl
  go_wp2_with fail
  go_loopg [65] mn (fun gh vi wr => ∃ k : Nat, k ≤ mn ∧ mn - k ≤ gh ∧ vi = .int .i64 k ∧ Hid (WS W0 B WB w0 (a4 ++ (mp.take k).flatMap encMp) wr))
  case atStart => exact ⟨0, by omega, by omega, rfl, by simpa using HS3⟩
  case round =>
    obtain ⟨k, hk, hg, rfl, hI⟩ := hrel
    clear HS3
    by_cases hlt : k < mn
    · obtain ⟨x, hx⟩ : ∃ x, mp[k]? = some x := ⟨_, List.getElem?_eq_getElem (by rw [HD.out.1]; exact hlt)⟩
      have hr := HO.out.1.p.2.2.1.below hI.out.base
      obtain ⟨b, off, rfl⟩ := hr.some_ (by have := HD.out.1; simp only; omega)
      have k0 := hr.at_ (j := 0) hx (u := .int .i64 x.at_) rfl
      rw [Nat.add_zero] at k0
      have k1 := hr.at_ (j := 1) hx (u := inU x.sg) rfl
      have k2 := hr.at_ (j := 2) hx (u := .int .i64 x.fr) rfl
      have k3 := hr.at_ (j := 3) hx (u := .int .i64 x.n) rfl
      have k4 := hr.at_ (j := 4) hx (u := .bool x.wr) rfl
      unfold inU at k1
      have hmr := (HO.out.2.1.k4 rfl).2 x (List.mem_of_getElem? hx)
      have l1 : (k : Int) < mn := by omega
      have iw : IntKind.i64.wrap ((k : Int) + 1) = ((k + 1 : Nat) : Int) := by have := HM.out; rw [IntKind.wrap_i64]; omega
      have is : IntKind.i64.wrap (x.sg : Int) = (x.sg : Int) := by have := hmr.s; rw [IntKind.wrap_i64]; omega
      obtain ⟨wr0, er⟩ : ∃ wr0, wr.alloc (Obj.cells #[.int .i64 x.at_, .int .u64 (x.sg : Int), .int .i64 x.fr, .int .i64 x.n, .bool x.wr] 93) = wr0 := ⟨_, rfl⟩
      obtain ⟨Y, eY⟩ : ∃ Y, wr.heap.size = Y := ⟨_, rfl⟩
      have hY : wr0.heap[Y]? = some (Obj.cells #[.int .i64 x.at_, .int .u64 (x.sg : Int), .int .i64 x.fr, .int .i64 x.n, .bool x.wr] 93) := by rw [← er, ← eY]; exact heap_alloc_new wr _
      have h1 := hI.out.box (cs := #[.int .i64 x.at_, .int .u64 (x.sg : Int), .int .i64 x.fr, .int .i64 x.n, .bool x.wr]) (u := 93)
      have h2 := fun (al' : List Nat) (w' : World) => hI.out.unbox (cs := #[.int .i64 x.at_, .int .u64 (x.sg : Int), .int .i64 x.fr, .int .i64 x.n, .bool x.wr]) (u := 93) (al' := al') (w' := w')
      rw [er] at h1 h2
      have HUk := Lib.hid h2
      have HYk := Lib.hid hY
      have HSk := Lib.hid h1
      have htk : mp.take (k + 1) = mp.take k ++ [x] := by rw [List.take_add_one, hx]; rfl
      have hln : (a4 ++ (mp.take k).flatMap encMp).length + 10 ≤ 100000 := by
        have h5 := HD.out.2.2.1 (mp.take (k + 1))
        rw [htk, List.flatMap_append, List.length_append] at h5
        have h6 := HD.out.2.2.1 (mp.take k)
        have h7 : (mp.take k).length ≤ k := List.length_take_le _ _
        have := HD.out.2.2.2
        rw [List.length_append]
        omega
      have HG := Lib.hid (And.intro hg (And.intro hlt (And.intro hmr (And.intro htk hln))))
      clear hx hr hmr hY h1 h2 htk hln hg hlt
      go_upto_region 16 with fail
      try rw [er]
      try rw [eY]
      clear er eY k0 k1 k2 k3 k4
      have HF := Lib.hid (fun (wS : World) (hS : SN wr0 wS) => (show wS.cell? ⟨Y, 0, none⟩ = some (.int .i64 x.at_) ∧ wS.cell? ⟨Y, 1, none⟩ = some (.int .u64 (x.sg : Int)) ∧ wS.cell? ⟨Y, 2, none⟩ = some (.int .i64 x.fr) ∧ wS.cell? ⟨Y, 3, none⟩ = some (.int .i64 x.n) ∧ wS.cell? ⟨Y, 4, none⟩ = some (.bool x.wr) from ⟨by rw [cell_of_row _ _ _ _ _ (0, 0) (hS _ _ _ (by decide) (by decide) HYk.out)]; rfl, by rw [cell_of_row _ _ _ _ _ (0, 0) (hS _ _ _ (by decide) (by decide) HYk.out)]; rfl, by rw [cell_of_row _ _ _ _ _ (0, 0) (hS _ _ _ (by decide) (by decide) HYk.out)]; rfl, by rw [cell_of_row _ _ _ _ _ (0, 0) (hS _ _ _ (by decide) (by decide) HYk.out)]; rfl, by rw [cell_of_row _ _ _ _ _ (0, 0) (hS _ _ _ (by decide) (by decide) HYk.out)]; rfl⟩))
      refine region_AU (Z := fun _ => false) (S := SN wr0) (by kernel_rfl) (SN.of_below (Below.refl _ wr0).drew) (fun hHeld => ?_)
      refine AUS_take (by kernel_rfl) rfl (i := 0) (oi := _) (v := ?vw201) rfl (by kernel_rfl) (by kernel_rfl) (by kernel_rfl) (fun _ _ _ h => h) (Or.inl ⟨by rfl, ?hz201⟩) hHeld ?rst201
      case hz201 => (intro wS hSw; clear hSw; go_simp; try with_reducible rfl)
      simp only [Act.put, List.getElem_toArray, List.getElem_cons_zero, List.getElem_cons_succ, List.setIfInBounds_toArray, List.set_cons_zero, List.set_cons_succ]
      refine AUS_take (by kernel_rfl) rfl (i := 1) (oi := _) (v := ?vw202) rfl (by kernel_rfl) (by kernel_rfl) (by kernel_rfl) (fun _ _ _ h => h) (Or.inl ⟨by rfl, ?hz202⟩) hHeld ?rst202
      case hz202 => (intro wS hSw; clear hSw; go_simp; try with_reducible rfl)
      simp only [Act.put, List.getElem_toArray, List.getElem_cons_zero, List.getElem_cons_succ, List.setIfInBounds_toArray, List.set_cons_zero, List.set_cons_succ]
      refine AUS_take (by kernel_rfl) rfl (i := 2) (oi := _) (v := ?vw203) rfl (by kernel_rfl) (by kernel_rfl) (by kernel_rfl) (fun _ _ _ h => h) (Or.inl ⟨by rfl, ?hz203⟩) hHeld ?rst203
      case hz203 => (intro wS hSw; obtain ⟨f0, f1, f2, f3, f4⟩ := HF.out wS hSw; clear hSw; go_simp; try with_reducible rfl)
      simp only [Act.put, List.getElem_toArray, List.getElem_cons_zero, List.getElem_cons_succ, List.setIfInBounds_toArray, List.set_cons_zero, List.set_cons_succ]
      refine AUS_take (by kernel_rfl) rfl (i := 3) (oi := _) (v := ?vw204) rfl (by kernel_rfl) (by kernel_rfl) (by kernel_rfl) (fun _ _ _ h => h) (Or.inl ⟨by rfl, ?hz204⟩) hHeld ?rst204
      case hz204 => (intro wS hSw; clear hSw; go_simp; try with_reducible rfl)
      simp only [Act.put, List.getElem_toArray, List.getElem_cons_zero, List.getElem_cons_succ, List.setIfInBounds_toArray, List.set_cons_zero, List.set_cons_succ]
      refine AUS_take (by kernel_rfl) rfl (i := 4) (oi := _) (v := ?vw205) rfl (by kernel_rfl) (by kernel_rfl) (by kernel_rfl) (fun _ _ _ h => h) (Or.inl ⟨by rfl, ?hz205⟩) hHeld ?rst205
      case hz205 => (intro wS hSw; obtain ⟨f0, f1, f2, f3, f4⟩ := HF.out wS hSw; clear hSw; go_simp; try with_reducible rfl)
      simp only [Act.put, List.getElem_toArray, List.getElem_cons_zero, List.getElem_cons_succ, List.setIfInBounds_toArray, List.set_cons_zero, List.set_cons_succ]
      refine AUS_take (by kernel_rfl) rfl (i := 5) (oi := _) (v := ?vw206) rfl (by kernel_rfl) (by kernel_rfl) (by kernel_rfl) (fun _ _ _ h => h) (Or.inl ⟨by rfl, ?hz206⟩) hHeld ?rst206
      case hz206 => (intro wS hSw; clear hSw; go_simp; try with_reducible rfl)
      simp only [Act.put, List.getElem_toArray, List.getElem_cons_zero, List.getElem_cons_succ, List.setIfInBounds_toArray, List.set_cons_zero, List.set_cons_succ]
      refine AUS_take (by kernel_rfl) rfl (i := 6) (oi := _) (v := ?vw207) rfl (by kernel_rfl) (by kernel_rfl) (by kernel_rfl) (fun _ _ _ h => h) (Or.inl ⟨by rfl, ?hz207⟩) hHeld ?rst207
      case hz207 => (intro wS hSw; clear hSw; go_simp; try with_reducible rfl)
      simp only [Act.put, List.getElem_toArray, List.getElem_cons_zero, List.getElem_cons_succ, List.setIfInBounds_toArray, List.set_cons_zero, List.set_cons_succ]
      refine AUS_take (by kernel_rfl) rfl (i := 7) (oi := _) (v := ?vw208) rfl (by kernel_rfl) (by kernel_rfl) (by kernel_rfl) (fun _ _ _ h => h) (Or.inl ⟨by rfl, ?hz208⟩) hHeld ?rst208
      case hz208 => (intro wS hSw; obtain ⟨f0, f1, f2, f3, f4⟩ := HF.out wS hSw; clear hSw; go_simp; try with_reducible rfl)
      simp only [Act.put, List.getElem_toArray, List.getElem_cons_zero, List.getElem_cons_succ, List.setIfInBounds_toArray, List.set_cons_zero, List.set_cons_succ]
      refine AUS_take (by kernel_rfl) rfl (i := 8) (oi := _) (v := ?vw209) rfl (by kernel_rfl) (by kernel_rfl) (by kernel_rfl) (fun _ _ _ h => h) (Or.inl ⟨by rfl, ?hz209⟩) hHeld ?rst209
      case hz209 => (intro wS hSw; clear hSw; go_simp; try with_reducible rfl)
      simp only [Act.put, List.getElem_toArray, List.getElem_cons_zero, List.getElem_cons_succ, List.setIfInBounds_toArray, List.set_cons_zero, List.set_cons_succ]
      refine AUS_take (by kernel_rfl) rfl (i := 9) (oi := _) (v := ?vw210) rfl (by kernel_rfl) (by kernel_rfl) (by kernel_rfl) (fun _ _ _ h => h) (Or.inl ⟨by rfl, ?hz210⟩) hHeld ?rst210
      case hz210 => (intro wS hSw; obtain ⟨f0, f1, f2, f3, f4⟩ := HF.out wS hSw; clear hSw; go_simp; try with_reducible rfl)
      simp only [Act.put, List.getElem_toArray, List.getElem_cons_zero, List.getElem_cons_succ, List.setIfInBounds_toArray, List.set_cons_zero, List.set_cons_succ]
      refine AUS_take (by kernel_rfl) rfl (i := 10) (oi := _) (v := ?vw211) rfl (by kernel_rfl) (by kernel_rfl) (by kernel_rfl) (fun _ _ _ h => h) (Or.inl ⟨by rfl, ?hz211⟩) hHeld ?rst211
      case hz211 => (intro wS hSw; clear hSw; go_simp; try with_reducible rfl)
      simp only [Act.put, List.getElem_toArray, List.getElem_cons_zero, List.getElem_cons_succ, List.setIfInBounds_toArray, List.set_cons_zero, List.set_cons_succ]
      refine AUS_take (by kernel_rfl) rfl (i := 11) (oi := _) (v := ?vw212) rfl (by kernel_rfl) (by kernel_rfl) (by kernel_rfl) (fun _ _ _ h => h) (Or.inl ⟨by rfl, ?hz212⟩) hHeld ?rst212
      case hz212 => (intro wS hSw; obtain ⟨f0, f1, f2, f3, f4⟩ := HF.out wS hSw; clear hSw; go_simp; try with_reducible rfl)
      simp only [Act.put, List.getElem_toArray, List.getElem_cons_zero, List.getElem_cons_succ, List.setIfInBounds_toArray, List.set_cons_zero, List.set_cons_succ]
      obtain ⟨qw, eqw⟩ : ∃ q : Int, (if x.wr = true then (1 : Int) else 0) = q := ⟨_, rfl⟩
      have HQ := Lib.hid (show (if x.wr = true then (1 : Int) else 0) = qw ∧ 0 ≤ qw ∧ qw ≤ 1 from ⟨eqw, by rw [← eqw]; split <;> decide, by rw [← eqw]; split <;> decide⟩)
      clear eqw
      refine AU_one (i := 12) (o := _) (by kernel_rfl) rfl (fun K hK => ?_)
      have CC := bit_any x.wr wr0.drew
      rw [HQ.out.1] at CC
      have CC := Lib.hid CC
      clear hHeld
      go_simp
      refine CC.out.mono ?_
      rintro e wz1 ⟨rfl, hb⟩
      have hbw : Below wr0.heap.size wr0 wz1 := (Below.refl _ wr0).drew.trans hb
      have HS1k := Lib.hid (HSk.out.below hbw)
      have HBW := Lib.hid (SN.of_below hbw)
      clear hb CC hbw
      refine hK.out _ _ (fun _ => HBW.out) ?_
      clear hK K
      try simp only [Act.put, List.getElem_toArray, List.getElem_cons_zero, List.getElem_cons_succ, List.setIfInBounds_toArray, List.set_cons_zero, List.set_cons_succ]
      refine AU_one (i := 13) (o := _) (by kernel_rfl) rfl (fun K hK => ?_)
      go_simp
      have HA := Lib.hid (show SN wr0 (wz1.alloc (Obj.cells #[.int .i64 x.at_, .int .i64 (x.sg : Int), .int .i64 x.fr, .int .i64 x.n, .int .i64 qw] 3)) from fun b cur u h1 h2 hb => SN.of_below (below_alloc1 wz1 _) b cur u h1 h2 (HBW.out b cur u h1 h2 hb))
      refine hK.out _ _ (fun _ => HA.out) ?_
      clear hK K HA
      try simp only [Act.put, List.getElem_toArray, List.getElem_cons_zero, List.getElem_cons_succ, List.setIfInBounds_toArray, List.set_cons_zero, List.set_cons_succ]
      refine AU_one (i := 14) (o := _) (by kernel_rfl) rfl (fun K hK => ?_)
      have CC := Lib.hid (HS1k.out.five (n := 2) (x := x.at_) (y := (x.sg : Int)) (z := x.fr) (p := x.n) (q := qw) (by
        have h := HG.out.2.2.1
        have h1 := h.a; have h2 := h.s; have h3 := h.f; have h4 := h.n
        intro i hi
        simp only [List.mem_cons, List.not_mem_nil, or_false] at hi
        rcases hi with rfl | rfl | rfl | rfl | rfl
        · omega
        · omega
        · omega
        · omega
        · have := HQ.out; omega) (by omega) (by have := HG.out.2.2.2.2; omega))
      go_simp
      refine CC.out.mono ?_
      rintro e wz2 ⟨rfl, hs⟩
      have HS2k := Lib.hid hs
      have HBW2 := Lib.hid (show SN wr0 wz2 from fun b cur u h1 h2 hb => hs.k.k b cur u h1 h2 hb)
      clear hs CC
      refine hK.out _ _ (fun _ => HBW2.out) ?_
      clear hK K
      try simp only [Act.put, List.getElem_toArray, List.getElem_cons_zero, List.getElem_cons_succ, List.setIfInBounds_toArray, List.set_cons_zero, List.set_cons_succ]
      refine AU_done (by kernel_rfl) ?_ _
      simp only [OnlyN]
      have HE := Lib.hid (show WS W0 B WB w0 (a4 ++ (mp.take (k + 1)).flatMap encMp) wz2 from by
        have h3 := HUk.out _ _ HS2k.out
        rw [HG.out.2.2.2.1, List.flatMap_append, ← List.append_assoc]
        have e1 : (if x.wr = true then (1 : Int) else 0).toNat = if x.wr = true then 1 else 0 := by split <;> rfl
        rw [← HQ.out.1, e1, Int.toNat_natCast] at h3
        have e2 : [x].flatMap encMp = encMp x := by simp
        rw [e2]
        exact h3)
      clear HS2k HBW2 HS1k HBW
      go_wp2_with fail
      go_roundg (mn - (k + 1))
      case rel => exact ⟨k + 1, HG.out.2.1, Nat.le_refl _, by first | rfl | simp, HE⟩
      case measure => have := HG.out; omega
    · have l1 : ¬ (k : Int) < mn := by omega
      have HE := Lib.hid (show WS W0 B WB w0 (a4 ++ mp.flatMap encMp) wr from by
        have h1 := hI.out
        rw [List.take_of_length_le (by have := HD.out.1; omega)] at h1
        exact h1)
      clear hI hg hlt
      go_wp2_with fail
      go_end0
      exact ⟨rfl, HU.out _ _ (by have := HE.out; rw [← HD.out.2.1] at this; simpa [encOm, encK, HD.out.1, List.append_assoc] using this)⟩
theorem wobj_any {W0 wb w : World} {B WB : Nat} {al : List Nat} {o : Ov} (h : WS W0 B WB wb al w) (ho : o.Rd W0) (hr : OmR o.m) (hb : al.length + (encOm o.m).length ≤ 100000) :
    Calls Try.prog 27 #[.pointer (some ⟨WB, 0, none⟩), .agg (arO o)] w fun e w' => e = .returned (.tuple #[]) ∧ WS W0 B WB wb (al ++ encOm o.m) w' := by
  obtain ⟨⟨kd, pa, lD, lP, cD, cP, pg, nm, dl, mp, sp, pc⟩, ⟨la, ln, lc⟩, ⟨ca, cn, cc⟩, ⟨da, dn, dc⟩, ⟨ma, mn, mc⟩⟩ := o
  have hk := hr.k
  simp only at hk
  rcases (by omega : kd = 1 ∨ kd = 2 ∨ kd = 3 ∨ kd = 4 ∨ kd = 5 ∨ kd = 6) with e | e | e | e | e | e <;> subst e
  · exact wobj_1 h ho hr hb
  · exact wobj_2 h ho hr hb
  · exact wobj_3 h ho hr hb
  · exact wobj_4 h ho hr hb
  · exact wobj_5 h ho hr hb
  · exact wobj_6 h ho hr hb
end Go.Proofs.Ytmadldgajjgbmaa
