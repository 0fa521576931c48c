/- ConfigRight. -/
import Derived.Test.YtmadldgajjgbmaaEa
import Derived.Test.YtmadldgajjgbmaaCc
import Derived.Test.YtmadldgajjgbmaaCg
set_option linter.unusedVariables false
set_option linter.unusedSimpArgs false
namespace Go.Proofs.Ytmadldgajjgbmaa
open Go.RowKit
set_option linter.unusedVariables false
set_option linter.unusedSimpArgs false
theorem cfgO_len (s : Sd) : (cfgO s).da.length ≤ s.da.length ∧ (cfgO s).mp.length ≤ s.mp.length := by
  unfold cfgO
  by_cases h1 : s.kd = 1
  · rw [if_pos h1]; exact ⟨Nat.zero_le _, Nat.zero_le _⟩
  rw [if_neg h1]
  by_cases h2 : s.kd = 2
  · rw [if_pos h2]; exact ⟨Nat.le_refl _, Nat.zero_le _⟩
  rw [if_neg h2]
  by_cases h4 : s.kd = 4
  · rw [if_pos h4]; exact ⟨Nat.zero_le _, Nat.le_refl _⟩
  rw [if_neg h4]
  by_cases h3 : s.kd = 3 ∨ s.kd = 5
  · rw [if_pos h3]; exact ⟨Nat.zero_le _, Nat.zero_le _⟩
  · rw [if_neg h3]; exact ⟨Nat.zero_le _, Nat.zero_le _⟩
/-- A plan's configuration, to be read. -/
theorem cfr_of {B : Nat} {w : World} {vs vo : Value} {l1 l2 : Nat} {xs : List Sl} {ss : List Sd} {ovs : List Ov} (hs : RV (fun b => B ≤ b) 49 2 encSl w vs xs) (ho : RV (fun b => B ≤ b) 44 12 encO w vo ovs) (hm : ovs.map Ov.m = ss.map cfgO)
    (hown : ∀ o ∈ ovs, o.Own B w) (hL : Light l1 l2 ss) (h1 : xs.length = l1) (h2 : ss.length = l2) (hx : ∀ x ∈ xs, x.Ok) :
    ∃ A1 c1 A2 c2, vs = .slice A1 l1 c1 ∧ vo = .slice A2 l2 c2 ∧ CfR w A1 A2 l1 l2 xs ovs ∧ l2 ≤ c2 := by
  have hl : ovs.length = l2 := by rw [← h2, ← List.length_map (f := Ov.m), hm, List.length_map]
  obtain ⟨A1, c1, e1, _, _, r1⟩ := hs.form
  obtain ⟨A2, c2, e2, hc, _, r2⟩ := ho.form
  rw [h1] at e1
  rw [hl] at e2 hc
  refine ⟨A1, c1, A2, c2, e1, e2, ⟨⟨h1, by have := hL.1; omega⟩, r1, hx, ⟨hl, by have := hL.2.1; omega⟩, r2, fun o h => ?_⟩, hc⟩
  have hmem : o.m ∈ ss.map cfgO := by rw [← hm]; exact List.mem_map_of_mem h
  obtain ⟨s, hs', e⟩ := List.mem_map.1 hmem
  have := cfgO_len s
  have := hL.2.2 s hs'
  refine (hown o h).rd ?_ ?_ <;> rw [← e] <;> omega
set_option maxHeartbeats 4000000 in
set_option maxRecDepth 100000 in
theorem cright_all {W : World} {co fr nm : Int} {A1 A2 : Option Addr} {l1 l2 c1 c2 : Nat} {xs : List Sl} {ss : List Sd} (h : PlR W co fr nm A1 A2 l1 l2 xs ss) (hc1 : l1 ≤ c1) :
    Calls Try.prog 3 #[.agg #[.int .i64 co, .int .i64 fr, .int .i64 nm, .slice A1 l1 c1, .slice A2 l2 c2]] W (BB W true) := by
  have HP := Lib.hid h
  have HC := Lib.hid hc1
  obtain ⟨X, eX⟩ : ∃ X, W.heap.size = X := ⟨_, rfl⟩
  obtain ⟨w0, e0⟩ : ∃ w0, W.alloc (Obj.cells #[.int .i64 co, .int .i64 fr, .int .i64 nm, .slice A1 l1 c1, .slice A2 l2 c2] 25) = w0 := ⟨_, rfl⟩
  have hB0 := plan_new W co fr nm A1 l1 c1 A2 l2 c2
  rw [e0, eX] at hB0
  have HB := Lib.hid hB0
  have CF := Lib.hid (fit_any w0)
  clear h hc1 hB0
  go_enter Try.func3, Try.ntmps3
  go_upto_region 1 with fail
  try rw [e0]
  try rw [eX]
  clear e0 eX
  go_wp2_with fail
  refine CF.out.mono ?_; rintro e w1 ⟨rfl, hb⟩
  have HB1 := Lib.hid (HB.out.below hb)
  clear hb CF HB
  obtain ⟨d0, d1, d2, d3, d4⟩ := HB1.out.cell
  have CL := Lib.hid (light_any (HP.out.below HB1.out.1) c1 c2)
  go_wp2_with fail
  refine CL.out.mono ?_; rintro e w2 ⟨q, rfl, hq, hb⟩
  have HB2 := Lib.hid (HB1.out.below hb)
  clear hb CL HB1 d0 d1 d2 d3 d4
  cases q
  · go_wp2_with fail
    go_ret
    exact ⟨rfl, HB2.out.1⟩
  have HL := Lib.hid (hq rfl)
  clear hq
  obtain ⟨d0, d1, d2, d3, d4⟩ := HB2.out.cell
  have CC := Lib.hid (config_any (HP.out.below HB2.out.1) c1 c2 HC.out HL.out)
  go_wp2_with fail
  refine CC.out.mono ?_; rintro e w3 ⟨vs, vo, ovs, rfl, hvs, hvo, hom, hown, hb⟩
  have HB3 := Lib.hid (HB2.out.below hb)
  clear hb CC HB2 d0 d1 d2 d3 d4
  obtain ⟨B1, k1, B2, k2, rfl, rfl, hcf, hk2⟩ := cfr_of hvs hvo hom hown HL.out HP.out.n1.1 HP.out.n2.1 HP.out.o1
  obtain ⟨K, eK⟩ : ∃ K, w3.heap.size = K := ⟨_, rfl⟩
  obtain ⟨w4, e4⟩ : ∃ w4, w3.alloc (Obj.cells #[.int .i64 co, .int .i64 fr, .int .i64 nm, .slice B1 l1 k1, .slice B2 l2 k2] 29) = w4 := ⟨_, rfl⟩
  have ho := CBx.new (co := co) (fr := fr) (nm := nm) (c1 := k1) (c2 := k2) hcf
  rw [e4, eK] at ho
  have HO := Lib.hid ho
  have HK := Lib.hid (And.intro hk2 (HB3.out.below ho.b).1)
  clear hvs hvo hom hown hcf hk2 ho
  go_upto_region 6 with fail
  try rw [e4]
  try rw [eK]
  clear e4 eK
  obtain ⟨r, er⟩ : ∃ r, rightB co fr nm xs (ovs.map Ov.m) = r := ⟨_, rfl⟩
  have HX := Lib.hid er
  clear er
  have HF := Lib.hid (fun (wS : World) (hS : Below w4.heap.size w4 wS) => (show wS.cell? ⟨K, 0, none⟩ = some (.int .i64 co) ∧ wS.cell? ⟨K, 1, none⟩ = some (.int .i64 fr) ∧ wS.cell? ⟨K, 2, none⟩ = some (.int .i64 nm) ∧ wS.cell? ⟨K, 3, none⟩ = some (.slice B1 l1 k1) ∧ wS.cell? ⟨K, 4, none⟩ = some (.slice B2 l2 k2) from ⟨(HO.out.below hS).c 0 _ rfl, (HO.out.below hS).c 1 _ rfl, (HO.out.below hS).c 2 _ rfl, (HO.out.below hS).c 3 _ rfl, (HO.out.below hS).c 4 _ rfl⟩))
  refine region_AU (Z := fun j => false) (S := fun w' => Below w4.heap.size w4 w') (by kernel_rfl) ((Below.refl _ _).drew) (fun hHeld => ?_)
  refine AUS_take (by kernel_rfl) rfl (i := 0) (oi := _) (v := ?vw101) rfl (by kernel_rfl) (by kernel_rfl) (by kernel_rfl) (fun _ _ _ h => h) (Or.inl ⟨by rfl, ?hz101⟩) hHeld ?rst101
  case hz101 => (intro wS hSw; obtain ⟨f0, f1, f2, f3, f4⟩ := HF.out wS hSw; clear hSw; go_simp; try with_reducible rfl)
  simp only [Act.put, List.getElem_toArray, List.getElem_cons_zero, List.getElem_cons_succ, List.setIfInBounds_toArray, List.set_cons_zero, List.set_cons_succ]
  refine AUS_take (by kernel_rfl) rfl (i := 2) (oi := _) (v := ?vw102) rfl (by kernel_rfl) (by kernel_rfl) (by kernel_rfl) (fun _ _ _ h => h) (Or.inl ⟨by rfl, ?hz102⟩) hHeld ?rst102
  case hz102 => (intro wS hSw; obtain ⟨f0, f1, f2, f3, f4⟩ := HF.out wS hSw; clear hSw; go_simp; try with_reducible rfl)
  simp only [Act.put, List.getElem_toArray, List.getElem_cons_zero, List.getElem_cons_succ, List.setIfInBounds_toArray, List.set_cons_zero, List.set_cons_succ]
  refine AU_one (i := 1) (o := _) (by kernel_rfl) rfl (fun K hK => ?_)
  have HH := Lib.hid hHeld
  have CC := cright_any (co := co) (fr := fr) (nm := nm) (c1 := k1) (HO.out.below hHeld).r HK.out.1
  rw [HX.out] at CC
  have CC := Lib.hid CC
  clear hHeld
  go_simp
  refine CC.out.mono ?_
  rintro e wz1 ⟨rfl, hb⟩
  have hHeld := HH.out.trans (hb.mono HH.out.size)
  clear HH hb CC
  refine hK.out _ _ (fun _ => hHeld) ?_
  clear hK K
  try simp only [Act.put, List.getElem_toArray, List.getElem_cons_zero, List.getElem_cons_succ, List.setIfInBounds_toArray, List.set_cons_zero, List.set_cons_succ]
  refine AU_one (i := 3) (o := _) (by kernel_rfl) rfl (fun K hK => ?_)
  have HH := Lib.hid hHeld
  have CC := lright_any (co := co) (fr := fr) (nm := nm) (HO.out.below hHeld).r k1 k2
  rw [HX.out] at CC
  have CC := Lib.hid CC
  clear hHeld
  go_simp
  refine CC.out.mono ?_
  rintro e wz1 ⟨rfl, hb⟩
  have hHeld := HH.out.trans (hb.mono HH.out.size)
  clear HH hb CC
  refine hK.out _ _ (fun _ => hHeld) ?_
  clear hK K
  try simp only [Act.put, List.getElem_toArray, List.getElem_cons_zero, List.getElem_cons_succ, List.setIfInBounds_toArray, List.set_cons_zero, List.set_cons_succ]
  refine AUS_take (by kernel_rfl) rfl (i := 4) (oi := _) (v := ?vw103) rfl (by kernel_rfl) (by kernel_rfl) (by kernel_rfl) (fun _ _ _ h => h) (Or.inl ⟨by rfl, ?hz103⟩) hHeld ?rst103
  case hz103 => (intro wS hSw; clear hSw; go_simp; try with_reducible rfl)
  simp only [Act.put, List.getElem_toArray, List.getElem_cons_zero, List.getElem_cons_succ, List.setIfInBounds_toArray, List.set_cons_zero, List.set_cons_succ]
  refine AUS_take (by kernel_rfl) rfl (i := 5) (oi := _) (v := ?vw104) rfl (by kernel_rfl) (by kernel_rfl) (by kernel_rfl) (fun _ _ _ h => h) (Or.inl ⟨by rfl, ?hz104⟩) hHeld ?rst104
  case hz104 => (intro wS hSw; clear hSw; go_simp; try with_reducible rfl)
  simp only [Act.put, List.getElem_toArray, List.getElem_cons_zero, List.getElem_cons_succ, List.setIfInBounds_toArray, List.set_cons_zero, List.set_cons_succ]
  refine AU_done (by kernel_rfl) ?_ _
  simp only [OnlyN]
  have HFin := Lib.hid (HK.out.2.trans (hHeld.mono HK.out.2.size))
  clear hHeld
  cases r
  · go_wp2_with fail
    go_ret
    exact ⟨rfl, HFin.out⟩
  · go_wp2_with fail
    go_ret
    exact ⟨rfl, HFin.out⟩
theorem ri_law (u : Value) (W : World) (g : CameP W u) : Calls Try.prog 3 #[u] W fun e w' => e = .returned (.bool true) ∧ Below W.heap.size W w' := by
  obtain ⟨co, fr, nm, A1, A2, l1, c1, l2, c2, xs, ss, rfl, hb, ⟨a1, a2, a3, a4, a5, a6⟩, b1, b2, b3, b4, b5, b6⟩ := g
  exact cright_all ⟨hb, ⟨a3, a4⟩, a5, a6, ⟨b3, b4⟩, b5, b6⟩ a1
end Go.Proofs.Ytmadldgajjgbmaa
