/- fit. -/
import Derived.Test.YtmbdglhihakkjaaQg
set_option linter.unusedVariables false
set_option linter.unusedSimpArgs false
namespace Go.Proofs.Ytmbdglhihakkjaa
open Go.RowKit
set_option linter.unusedVariables false
set_option linter.unusedSimpArgs false
theorem ok_nil (D : Int) : Lab.Ok D [] := ⟨List.Pairwise.nil, by simp, by simp⟩
theorem LA.nil {k : Nat} {w : World} (D : Int) : LA k w D none 0 0 [] := ⟨ok_nil D, Nat.zero_le _, .inl ⟨rfl, rfl⟩⟩
theorem lq_self (D : Int) (P : LP) : lq D P D P = true := lq_iff.2 fun c => Int.le_refl _
theorem fit_ch : ch 2 [(7, 4)] 2 [] = false := by
  have : lq 2 [(7, 4)] 2 [] = false := by
    cases h : lq 2 [(7, 4)] 2 [] with
    | false => rfl
    | true => exact absurd (lq_iff.1 h 7) (by decide)
  simp [ch, this]
theorem ok7 : Lab.Ok 2 [(7, 4)] := ⟨by unfold Lab.Rise; simp, fun p h => by simp at h; subst h; decide, fun p h => by simp at h; subst h; decide⟩
theorem at7 (c : Nat) : 2 ≤ Lab.at' 2 [(7, 4)] c ∧ Lab.at' 2 [(7, 4)] c ≤ 4 := by
  unfold Lab.at'
  split
  · exact ⟨by decide, by decide⟩
  · unfold Lab.at'; exact ⟨by decide, by decide⟩
theorem up7 (c : Nat) : Lab.at' (Lab.turn 0 5 2) (Lab.tn 0 5 2 [(7, 4)]) c = Lab.at' 2 [(7, 4)] c := by
  rw [Lab.tn_at ok7]
  have := at7 c
  unfold Lab.turn
  rw [if_neg (by omega)]
theorem fit_rd : rd 2 [(7, 4)] 2 [] = true := lq_iff.2 fun c => by rw [up7]; exact (at7 c).1
theorem fit_ch2 : ch 2 [(7, 4)] 2 [(7, 4)] = true := by
  have : rd 2 [(7, 4)] 2 [(7, 4)] = true := lq_iff.2 fun c => by rw [up7]; exact Int.le_refl _
  simp [ch, this, lq_self]
set_option maxHeartbeats 2000000 in
set_option maxRecDepth 100000 in
theorem fit_m (w : World) : Calls Try.prog 11 #[] w (BB w true) := by
  have CO := Lib.hid (fun W => of_any 2 W)
  go_enter Try.func11, Try.ntmps11
  go_wp2_with fail
  refine (CO.out _).mono ?_
  rintro e w1 ⟨rfl, hb1⟩
  have CW := Lib.hid (with_m (W := w1) (k1 := 0) 7 4 (LA.nil 2) (by omega) (by omega) (by omega))
  go_wp2_with fail
  refine CW.out.mono ?_
  rintro e w2 ⟨a7, n7, c7, rfl, l7, hb2⟩
  have hB2 := hb1.trans (hb2.mono hb1.size)
  have hb3 := below_alloc1 w2 (Obj.cells #[.int .i64 2, .slice a7 n7 c7] 29)
  obtain ⟨X, eX⟩ : ∃ X, X = w2.alloc (Obj.cells #[.int .i64 2, .slice a7 n7 c7] 29) := ⟨_, rfl⟩
  have HK := Lib.hid (show X.heap[w2.heap.size]? = some (Obj.cells #[.int .i64 2, .slice a7 n7 c7] 29) from by rw [eX]; exact heap_alloc_new w2 _)
  have HL7 := Lib.hid (show LA 100 X 2 a7 n7 c7 [(7, 4)] from by rw [eX]; exact (l7.la.below hb3).mono (by omega))
  have HB := Lib.hid (show Below w.heap.size w X from by rw [eX]; exact hB2.trans (hb3.mono hB2.size))
  clear CO CW hb1 hb2 hB2 l7 hb3
  go_upto_region 2 with fail
  rw [← eX]
  obtain ⟨A, eA⟩ : ∃ A, A = w2.heap.size := ⟨_, rfl⟩
  rw [← eA] at HK ⊢
  clear eX eA
  have hk0 := HK.out
  have h7 := HL7.out
  have hB := HB.out
  have HS := Lib.hid (fun (wx : World) (hx : Below X.heap.size X wx) => (by
      have hw : Below w.heap.size w wx := hB.trans (hx.mono hB.size)
      have r0 := block_below hk0 hx
      exact ⟨hw, by rw [cell_of_row _ _ 0 _ 29 (0, 0) r0]; rfl, by rw [cell_of_row _ _ 1 _ 29 (0, 0) r0]; rfl, h7.below hx⟩ : Below w.heap.size w wx ∧ wx.cell? ⟨A, 0, none⟩ = some (.int .i64 2) ∧ wx.cell? ⟨A, 1, none⟩ = some (.slice a7 n7 c7) ∧ LA 100 wx 2 a7 n7 c7 ([(7, 4)])))
  clear hk0 h7 hB HL7 HK
  have hHeld := Below.refl X.heap.size X
  have Ea := Lib.hid fit_ch
  have Eb := Lib.hid fit_rd
  have Ec := Lib.hid fit_ch2
  refine region_AU (Z := fun j => false) (S := fun w' => Below X.heap.size X w') (by kernel_rfl) (hHeld.drew) (fun hHeld => ?_)
  refine AUS_take (by kernel_rfl) rfl (i := 0) (oi := _) (v := ?vw1) rfl (by kernel_rfl) (by kernel_rfl) (by kernel_rfl) (fun _ _ _ h => h) (Or.inl ⟨by rfl, ?hz1⟩) hHeld ?rst1
  case hz1 => (intro wS hSw; obtain ⟨_, f0, f1, _⟩ := HS.out wS hSw; clear hSw; go_simp; try with_reducible rfl)
  simp only [Act.put, List.getElem_toArray, List.getElem_cons_zero, List.getElem_cons_succ, List.setIfInBounds_toArray, List.set_cons_zero, List.set_cons_succ]
  have HH := Lib.hid hHeld
  obtain ⟨hbw, _, _, g7⟩ := HS.out _ hHeld
  refine AU_one (i := 1) (o := _) (by kernel_rfl) rfl (fun K hK => ?_)
  have CC := Lib.hid (fun W => of_any 2 W)
  clear hHeld hbw g7
  go_simp
  refine (CC.out _).mono ?_
  clear CC
  rintro e wz1 ⟨rfl, hb⟩
  have hHeld := HH.out.trans (hb.mono HH.out.size)
  clear HH hb
  refine hK.out _ _ (fun _ => hHeld) ?_
  clear hK K
  try simp only [Act.put, List.getElem_toArray, List.getElem_cons_zero, List.getElem_cons_succ, List.setIfInBounds_toArray, List.set_cons_zero, List.set_cons_succ]
  have HH := Lib.hid hHeld
  obtain ⟨hbw, _, _, g7⟩ := HS.out _ hHeld
  refine AU_one (i := 2) (o := _) (by kernel_rfl) rfl (fun K hK => ?_)
  have CC := change_m (g7.mono (by omega)) ((LA.nil (k := 0) 2).mono (by omega))
  rw [Ea.out] at CC
  have CC := Lib.hid CC
  clear hHeld hbw g7
  go_simp
  refine CC.out.mono ?_
  clear CC
  rintro e wz2 ⟨rfl, hb⟩
  have hHeld := HH.out.trans (hb.mono HH.out.size)
  clear HH hb
  refine hK.out _ _ (fun _ => hHeld) ?_
  clear hK K
  try simp only [Act.put, List.getElem_toArray, List.getElem_cons_zero, List.getElem_cons_succ, List.setIfInBounds_toArray, List.set_cons_zero, List.set_cons_succ]
  refine AUS_take (by kernel_rfl) rfl (i := 3) (oi := _) (v := ?vw2) rfl (by kernel_rfl) (by kernel_rfl) (by kernel_rfl) (fun _ _ _ h => h) (Or.inl ⟨by rfl, ?hz2⟩) hHeld ?rst2
  case hz2 => (intro wS hSw; obtain ⟨_, f0, f1, _⟩ := HS.out wS hSw; clear hSw; go_simp; try with_reducible rfl)
  simp only [Act.put, List.getElem_toArray, List.getElem_cons_zero, List.getElem_cons_succ, List.setIfInBounds_toArray, List.set_cons_zero, List.set_cons_succ]
  refine AUS_take (by kernel_rfl) rfl (i := 4) (oi := _) (v := ?vw3) rfl (by kernel_rfl) (by kernel_rfl) (by kernel_rfl) (fun _ _ _ h => h) (Or.inl ⟨by rfl, ?hz3⟩) hHeld ?rst3
  case hz3 => (intro wS hSw; obtain ⟨_, f0, f1, _⟩ := HS.out wS hSw; clear hSw; go_simp; try with_reducible rfl)
  simp only [Act.put, List.getElem_toArray, List.getElem_cons_zero, List.getElem_cons_succ, List.setIfInBounds_toArray, List.set_cons_zero, List.set_cons_succ]
  refine AUS_take (by kernel_rfl) rfl (i := 5) (oi := _) (v := ?vw4) rfl (by kernel_rfl) (by kernel_rfl) (by kernel_rfl) (fun _ _ _ h => h) (Or.inl ⟨by rfl, ?hz4⟩) hHeld ?rst4
  case hz4 => (intro wS hSw; obtain ⟨_, f0, f1, _⟩ := HS.out wS hSw; clear hSw; go_simp; try with_reducible rfl)
  simp only [Act.put, List.getElem_toArray, List.getElem_cons_zero, List.getElem_cons_succ, List.setIfInBounds_toArray, List.set_cons_zero, List.set_cons_succ]
  have HH := Lib.hid hHeld
  obtain ⟨hbw, _, _, g7⟩ := HS.out _ hHeld
  refine AU_one (i := 6) (o := _) (by kernel_rfl) rfl (fun K hK => ?_)
  have CC := Lib.hid (fun W => of_any 2 W)
  clear hHeld hbw g7
  go_simp
  refine (CC.out _).mono ?_
  clear CC
  rintro e wz3 ⟨rfl, hb⟩
  have hHeld := HH.out.trans (hb.mono HH.out.size)
  clear HH hb
  refine hK.out _ _ (fun _ => hHeld) ?_
  clear hK K
  try simp only [Act.put, List.getElem_toArray, List.getElem_cons_zero, List.getElem_cons_succ, List.setIfInBounds_toArray, List.set_cons_zero, List.set_cons_succ]
  have HH := Lib.hid hHeld
  obtain ⟨hbw, _, _, g7⟩ := HS.out _ hHeld
  refine AU_one (i := 7) (o := _) (by kernel_rfl) rfl (fun K hK => ?_)
  have CC := read_m (g7.mono (by omega)) ((LA.nil (k := 0) 2).mono (by omega))
  rw [Eb.out] at CC
  have CC := Lib.hid CC
  clear hHeld hbw g7
  go_simp
  refine CC.out.mono ?_
  clear CC
  rintro e wz4 ⟨rfl, hb⟩
  have hHeld := HH.out.trans (hb.mono HH.out.size)
  clear HH hb
  refine hK.out _ _ (fun _ => hHeld) ?_
  clear hK K
  try simp only [Act.put, List.getElem_toArray, List.getElem_cons_zero, List.getElem_cons_succ, List.setIfInBounds_toArray, List.set_cons_zero, List.set_cons_succ]
  refine AUS_take (by kernel_rfl) rfl (i := 8) (oi := _) (v := ?vw5) rfl (by kernel_rfl) (by kernel_rfl) (by kernel_rfl) (fun _ _ _ h => h) (Or.inl ⟨by rfl, ?hz5⟩) hHeld ?rst5
  case hz5 => (intro wS hSw; obtain ⟨_, f0, f1, _⟩ := HS.out wS hSw; clear hSw; go_simp; try with_reducible rfl)
  simp only [Act.put, List.getElem_toArray, List.getElem_cons_zero, List.getElem_cons_succ, List.setIfInBounds_toArray, List.set_cons_zero, List.set_cons_succ]
  refine AUS_take (by kernel_rfl) rfl (i := 9) (oi := _) (v := ?vw6) rfl (by kernel_rfl) (by kernel_rfl) (by kernel_rfl) (fun _ _ _ h => h) (Or.inl ⟨by rfl, ?hz6⟩) hHeld ?rst6
  case hz6 => (intro wS hSw; obtain ⟨_, f0, f1, _⟩ := HS.out wS hSw; clear hSw; go_simp; try with_reducible rfl)
  simp only [Act.put, List.getElem_toArray, List.getElem_cons_zero, List.getElem_cons_succ, List.setIfInBounds_toArray, List.set_cons_zero, List.set_cons_succ]
  refine AUS_take (by kernel_rfl) rfl (i := 10) (oi := _) (v := ?vw7) rfl (by kernel_rfl) (by kernel_rfl) (by kernel_rfl) (fun _ _ _ h => h) (Or.inl ⟨by rfl, ?hz7⟩) hHeld ?rst7
  case hz7 => (intro wS hSw; obtain ⟨_, f0, f1, _⟩ := HS.out wS hSw; clear hSw; go_simp; try with_reducible rfl)
  simp only [Act.put, List.getElem_toArray, List.getElem_cons_zero, List.getElem_cons_succ, List.setIfInBounds_toArray, List.set_cons_zero, List.set_cons_succ]
  refine AUS_take (by kernel_rfl) rfl (i := 11) (oi := _) (v := ?vw8) rfl (by kernel_rfl) (by kernel_rfl) (by kernel_rfl) (fun _ _ _ h => h) (Or.inl ⟨by rfl, ?hz8⟩) hHeld ?rst8
  case hz8 => (intro wS hSw; obtain ⟨_, f0, f1, _⟩ := HS.out wS hSw; clear hSw; go_simp; try with_reducible rfl)
  simp only [Act.put, List.getElem_toArray, List.getElem_cons_zero, List.getElem_cons_succ, List.setIfInBounds_toArray, List.set_cons_zero, List.set_cons_succ]
  have HH := Lib.hid hHeld
  obtain ⟨hbw, _, _, g7⟩ := HS.out _ hHeld
  refine AU_one (i := 12) (o := _) (by kernel_rfl) rfl (fun K hK => ?_)
  have CC := change_m (g7.mono (by omega)) (g7.mono (by omega))
  rw [Ec.out] at CC
  have CC := Lib.hid CC
  clear hHeld hbw g7
  go_simp
  refine CC.out.mono ?_
  clear CC
  rintro e wz5 ⟨rfl, hb⟩
  have hHeld := HH.out.trans (hb.mono HH.out.size)
  clear HH hb
  refine hK.out _ _ (fun _ => hHeld) ?_
  clear hK K
  try simp only [Act.put, List.getElem_toArray, List.getElem_cons_zero, List.getElem_cons_succ, List.setIfInBounds_toArray, List.set_cons_zero, List.set_cons_succ]
  refine AUS_take (by kernel_rfl) rfl (i := 13) (oi := _) (v := ?vw9) rfl (by kernel_rfl) (by kernel_rfl) (by kernel_rfl) (fun _ _ _ h => h) (Or.inl ⟨by rfl, ?hz9⟩) hHeld ?rst9
  case hz9 => (intro wS hSw; obtain ⟨_, f0, f1, _⟩ := HS.out wS hSw; clear hSw; go_simp; try with_reducible rfl)
  simp only [Act.put, List.getElem_toArray, List.getElem_cons_zero, List.getElem_cons_succ, List.setIfInBounds_toArray, List.set_cons_zero, List.set_cons_succ]
  refine AUS_take (by kernel_rfl) rfl (i := 14) (oi := _) (v := ?vw10) rfl (by kernel_rfl) (by kernel_rfl) (by kernel_rfl) (fun _ _ _ h => h) (Or.inl ⟨by rfl, ?hz10⟩) hHeld ?rst10
  case hz10 => (intro wS hSw; obtain ⟨_, f0, f1, _⟩ := HS.out wS hSw; clear hSw; go_simp; try with_reducible rfl)
  simp only [Act.put, List.getElem_toArray, List.getElem_cons_zero, List.getElem_cons_succ, List.setIfInBounds_toArray, List.set_cons_zero, List.set_cons_succ]
  have HE := Lib.hid hHeld
  clear hHeld
  refine AU_done (by kernel_rfl) ?_ _
  simp only [OnlyN]
  have hHeld := HE.out
  clear HE
  have HE := Lib.hid (HS.out _ hHeld).1
  clear hHeld
  go_wp2_with fail
  go_ret
  exact ⟨by simp [], HE.out⟩
end Go.Proofs.Ytmbdglhihakkjaa
