/- config's reader: numbers, slots, maps. -/
import Derived.Test.YtmadldgajjgbmaaGa
import Derived.Test.YtmadldgajjgbmaaCc
set_option linter.unusedVariables false
set_option linter.unusedSimpArgs false
namespace Go.Proofs.Ytmadldgajjgbmaa
open Go.RowKit
set_option linter.unusedVariables false
set_option linter.unusedSimpArgs false
theorem rd_row {w : World} {R Q : Nat} {bs : List Nat} {bad : Bool} {old cs : Array Value} {T : TypeId} (h : Rd w R bs bad) (hQ : w.heap[Q]? = some (Obj.cells old T)) (h5 : T ≠ 5) (h1 : T ≠ 100) : Rd (w.setRow Q cs) R bs bad := by
  obtain ⟨A, c, hR, _⟩ := h.cells
  refine h.kept (fun b c hb => (setRow_other w Q b _ fun e => ?_).trans hb) (setRow_other w Q R _ fun e => ?_)
  · rw [e] at hb; exact h5 (cells_ty hQ hb)
  · rw [e] at hR; exact h1 (cells_ty hQ hR)
theorem grown_row {w0 w : World} {R Q : Nat} {cs : Array Value} (hg : w0.grownBy w (some R)) (hQ : w0.heap.size ≤ Q) : w0.grownBy (w.setRow Q cs) (some R) := by
  have t := Turn.row w Q cs
  exact ⟨t.os.trans hg.os, t.tape.trans hg.tape, t.output.trans hg.output, Nat.le_trans hg.size t.size, fun k hk hne => (setRow_other w Q k _ (by omega)).trans (hg.block k hk hne)⟩
theorem rd_cell {w : World} {R Q : Nat} {bs : List Nat} {bad : Bool} {old : Array Value} {T : TypeId} {j : Nat} {v : Value} (h : Rd w R bs bad) (hQ : w.heap[Q]? = some (Obj.cells old T)) (h5 : T ≠ 5) (h1 : T ≠ 100) : Rd (w.setCell ⟨Q, j, none⟩ v) R bs bad := by
  obtain ⟨A, c, hR, _⟩ := h.cells
  refine h.kept (fun b c hb => (heap_setCell_other w ⟨Q, j, none⟩ b v fun e => ?_).trans hb) (heap_setCell_other w ⟨Q, j, none⟩ R v fun e => ?_)
  · rw [show b = Q from e] at hb; exact h5 (cells_ty hQ hb)
  · rw [show R = Q from e] at hR; exact h1 (cells_ty hQ hR)
theorem grown_cell {w0 w : World} {R Q j : Nat} {v : Value} (hg : w0.grownBy w (some R)) (hQ : w0.heap.size ≤ Q) : w0.grownBy (w.setCell ⟨Q, j, none⟩ v) (some R) := by
  have t := Turn.set w Q j v
  exact ⟨t.os.trans hg.os, t.tape.trans hg.tape, t.output.trans hg.output, Nat.le_trans hg.size t.size, fun k hk hne => (heap_setCell_other w ⟨Q, j, none⟩ k v (fun e => by have : k = Q := e; omega)).trans (hg.block k hk hne)⟩
/-- Where a reader stands behind a call. -/
def RE (w : World) (R : Nat) (t : St) (w' : World) : Prop := Rd w' R t.1 t.2 ∧ w.grownBy w' (some R)
set_option maxHeartbeats 2000000 in
theorem rnum_any {w : World} {R n : Nat} {s : St} (h : Rd w R s.1 s.2) (hn : 1 ≤ n ∧ n ≤ 4) : Calls Try.prog 45 #[.agg #[.pointer (some ⟨R, 0, none⟩)], .int .i64 (n : Int)] w fun e w' => e = .returned (.int .i64 ((Pk.nx n s).1 : Int)) ∧ RE w R (Pk.nx n s).2 w' := by
  obtain ⟨w0, e0⟩ : ∃ w0, w.alloc (Obj.cells #[.pointer (some ⟨R, 0, none⟩)] 76) = w0 := ⟨_, rfl⟩
  obtain ⟨X, eX⟩ : ∃ X, w.heap.size = X := ⟨_, rfl⟩
  have hb0 : Below w.heap.size w w0 := by rw [← e0]; exact below_alloc1 w _
  have hX : w0.heap[X]? = some (Obj.cells #[.pointer (some ⟨R, 0, none⟩)] 76) := by rw [← e0, ← eX]; exact heap_alloc_new w _
  have c0 : w0.cell? ⟨X, 0, none⟩ = some (.pointer (some ⟨R, 0, none⟩)) := by rw [cell_of_row _ _ _ _ _ (0, 0) hX]; rfl
  have hlt : (Pk.nx n s).1 < 4294967296 := by
    have h1 := (Pk.nx_byte (n := n) h.byte).1
    have h2 : 256 ^ n ≤ 256 ^ 4 := Nat.pow_le_pow_right (by decide) hn.2
    have h3 : (256 : Nat) ^ 4 = 4294967296 := by decide
    omega
  have C := Lib.hid (num_any R s.1 s.2 n w0 (h.below hb0) hn.1 (by omega))
  obtain ⟨x, ex⟩ : ∃ x, (Pk.nx n s).1 = x := ⟨_, rfl⟩
  have iw : IntKind.i64.wrap (x : Int) = (x : Int) := by rw [IntKind.wrap_i64]; omega
  have HB := Lib.hid hb0
  have HE := Lib.hid ex
  clear h hn hb0 hX hlt ex
  go_enter Try.func45, Try.ntmps45
  go_upto_region 1 with fail
  try rw [e0]
  try rw [eX]
  clear e0 eX
  go_wp2_with fail
  refine C.out.mono ?_; rintro e w1 ⟨rfl, hr, hg⟩
  rw [show (Pk.nx n (s.1, s.2)).1 = x from HE.out]
  have HF := Lib.hid (show RE w R (Pk.nx n s).2 w1 from ⟨hr, grown_trans (grown_below HB.out) hg⟩)
  clear hr hg C c0
  go_wp2_with fail
  go_ret
  exact ⟨by rw [HE.out]; rfl, HF.out⟩
theorem int_eq1 (x : Nat) : ((x : Int) == 1) = decide (x = 1) := by by_cases h : x = 1 <;> simp [h]; omega
set_option maxHeartbeats 2000000 in
theorem ryes_any {w : World} {R : Nat} {s : St} (h : Rd w R s.1 s.2) : Calls Try.prog 72 #[.agg #[.pointer (some ⟨R, 0, none⟩)], .int .i64 2] w fun e w' => e = .returned (.bool (ryes s).1) ∧ RE w R (ryes s).2 w' := by
  obtain ⟨w0, e0⟩ : ∃ w0, w.alloc (Obj.cells #[.pointer (some ⟨R, 0, none⟩)] 76) = w0 := ⟨_, rfl⟩
  obtain ⟨X, eX⟩ : ∃ X, w.heap.size = X := ⟨_, rfl⟩
  have hb0 : Below w.heap.size w w0 := by rw [← e0]; exact below_alloc1 w _
  have hX : w0.heap[X]? = some (Obj.cells #[.pointer (some ⟨R, 0, none⟩)] 76) := by rw [← e0, ← eX]; exact heap_alloc_new w _
  have c0 : w0.cell? ⟨X, 0, none⟩ = some (.pointer (some ⟨R, 0, none⟩)) := by rw [cell_of_row _ _ _ _ _ (0, 0) hX]; rfl
  have C := Lib.hid (rnum_any (n := 2) (h.below hb0) (by omega))
  have HB := Lib.hid (And.intro hb0 (And.intro hX h))
  clear h hb0 hX
  go_enter Try.func72, Try.ntmps72
  go_upto_region 1 with fail
  try rw [e0]
  try rw [eX]
  clear e0 eX
  go_wp2_with fail
  refine C.out.mono ?_; rintro e w1 ⟨rfl, hr, hg⟩
  obtain ⟨x, ex⟩ : ∃ x, (Pk.nx 2 s).1 = x := ⟨_, rfl⟩
  rw [ex]
  have HE := Lib.hid ex
  have c1 : w1.cell? ⟨X, 0, none⟩ = some (.pointer (some ⟨R, 0, none⟩)) := by rw [cell_of_row _ _ _ _ _ (0, 0) ((HB.out.2.2.below HB.out.1).keeps hg HB.out.2.1 (by decide))]; rfl
  have q2 := int_eq1 x
  by_cases h1 : 1 < x
  · have q1 : (x : Int) > 1 := by omega
    have CF := Lib.hid (fail_any R _ _ w1 hr)
    have HG := Lib.hid (grown_trans (grown_below HB.out.1) hg)
    have HV := Lib.hid (show (ryes s).1 = decide (x = 1) ∧ (ryes s).2 = ((Pk.nx 2 s).2.1, true) from ⟨by unfold ryes; simp only [HE.out], by unfold ryes; simp only [HE.out]; rw [if_pos h1]⟩)
    clear hr hg C c0 ex h1
    go_wp2_with fail
    refine CF.out.mono ?_; rintro e w2 ⟨rfl, hr, hg⟩
    have HF := Lib.hid (show RE w R ((Pk.nx 2 s).2.1, true) w2 from ⟨hr, grown_trans HG.out hg⟩)
    clear hr hg CF c1
    go_wp2_with fail
    go_ret
    rw [HV.out.2]
    exact ⟨by rw [HV.out.1]; rfl, HF.out⟩
  · have q1 : ¬ (x : Int) > 1 := by omega
    have HV := Lib.hid (show (ryes s).1 = decide (x = 1) ∧ (ryes s).2 = (Pk.nx 2 s).2 from ⟨by unfold ryes; simp only [HE.out], by unfold ryes; simp only [HE.out]; rw [if_neg h1]⟩)
    have HF := Lib.hid (show RE w R (Pk.nx 2 s).2 w1 from ⟨hr, grown_trans (grown_below HB.out.1) hg⟩)
    clear hr hg C c0 c1 ex h1
    go_wp2_with fail
    go_ret
    rw [HV.out.2]
    exact ⟨by rw [HV.out.1]; rfl, HF.out⟩
theorem sizeSl : (Try.prog.info? 49).map (·.size) = some 2 := by kernel_rfl
theorem sizeM : (Try.prog.info? 93).map (·.size) = some 5 := by kernel_rfl
set_option maxHeartbeats 4000000 in
set_option maxRecDepth 100000 in
theorem rslot_any {w : World} {R : Nat} {s : St} (h : Rd w R s.1 s.2) : Calls Try.prog 47 #[.agg #[.pointer (some ⟨R, 0, none⟩)]] w fun e w' => e = .returned (.agg #[.int .u64 ((rSl s).1.ct : Int), .int .i64 (rSl s).1.tk]) ∧ RE w R (rSl s).2 w' := by
  obtain ⟨wA, eA⟩ : ∃ wA, w.alloc (Obj.cells #[.pointer (some ⟨R, 0, none⟩)] 76) = wA := ⟨_, rfl⟩
  obtain ⟨X, eX⟩ : ∃ X, w.heap.size = X := ⟨_, rfl⟩
  have hbA : Below w.heap.size w wA := by rw [← eA]; exact below_alloc1 w _
  have hXA : wA.heap[X]? = some (Obj.cells #[.pointer (some ⟨R, 0, none⟩)] 76) := by rw [← eA, ← eX]; exact heap_alloc_new w _
  obtain ⟨w0, e0⟩ : ∃ w0, wA.alloc (Obj.cells #[.int .u64 0, .int .i64 0] 49) = w0 := ⟨_, rfl⟩
  obtain ⟨Q, eQ⟩ : ∃ Q, wA.heap.size = Q := ⟨_, rfl⟩
  have hXQ : X + 1 = Q := by rw [← eQ, ← eA, ← eX]; simp
  have hb1 : Below wA.heap.size wA w0 := by rw [← e0]; exact below_alloc1 wA _
  have hQ : w0.heap[Q]? = some (Obj.cells #[.int .u64 0, .int .i64 0] 49) := by rw [← e0, ← eQ]; exact heap_alloc_new wA _
  have hX := (hb1.block _ (Array.getElem?_eq_some_iff.1 hXA).1).trans hXA
  have hb0 : Below w.heap.size w w0 := hbA.trans (hb1.mono hbA.size)
  have H0 := Lib.hid (show RE w R s w0 from ⟨h.below hb0, grown_below hb0⟩)
  have HQ0 := Lib.hid hQ
  have HX := Lib.hid hX
  have HL := Lib.hid (show w.heap.size ≤ Q by omega)
  clear h hbA hXA hb1 hQ hX hb0
  go_enter Try.func47, Try.ntmps47
  go_upto_region 1 with fail
  try rw [eA]
  try rw [eX]
  try rw [hXQ]
  try rw [e0]
  clear eA e0 eX eQ hXQ
  have HF := Lib.hid (fun (wS : World) (hS : wS.heap[X]? = some (Obj.cells #[.pointer (some ⟨R, 0, none⟩)] 76)) => (show wS.cell? ⟨X, 0, none⟩ = some (.pointer (some ⟨R, 0, none⟩)) from by rw [cell_of_row _ _ _ _ _ (0, 0) hS]; rfl))
  refine region_AU (Z := fun _ => false) (S := fun wS => wS.heap[X]? = some (Obj.cells #[.pointer (some ⟨R, 0, none⟩)] 76)) (by kernel_rfl) (show w0.drew.heap[X]? = _ from HX.out) (fun hHeld => ?_)
  refine AUS_take (by kernel_rfl) rfl (i := 0) (oi := _) (v := ?vw101) rfl (by kernel_rfl) (by kernel_rfl) (by kernel_rfl) (fun _ _ _ h => h) (Or.inl ⟨by rfl, ?hz101⟩) hHeld ?rst101
  case hz101 => (intro wS hSw; obtain f0 := HF.out wS hSw; clear hSw; go_simp; try with_reducible rfl)
  simp only [Act.put, List.getElem_toArray, List.getElem_cons_zero, List.getElem_cons_succ, List.setIfInBounds_toArray, List.set_cons_zero, List.set_cons_succ]
  refine AUS_take (by kernel_rfl) rfl (i := 1) (oi := _) (v := ?vw102) rfl (by kernel_rfl) (by kernel_rfl) (by kernel_rfl) (fun _ _ _ h => h) (Or.inl ⟨by rfl, ?hz102⟩) hHeld ?rst102
  case hz102 => (intro wS hSw; obtain f0 := HF.out wS hSw; clear hSw; go_simp; try with_reducible rfl)
  simp only [Act.put, List.getElem_toArray, List.getElem_cons_zero, List.getElem_cons_succ, List.setIfInBounds_toArray, List.set_cons_zero, List.set_cons_succ]
  refine AUS_take (by kernel_rfl) rfl (i := 3) (oi := _) (v := ?vw103) rfl (by kernel_rfl) (by kernel_rfl) (by kernel_rfl) (fun _ _ _ h => h) (Or.inl ⟨by rfl, ?hz103⟩) hHeld ?rst103
  case hz103 => (intro wS hSw; obtain f0 := HF.out wS hSw; clear hSw; go_simp; try with_reducible rfl)
  simp only [Act.put, List.getElem_toArray, List.getElem_cons_zero, List.getElem_cons_succ, List.setIfInBounds_toArray, List.set_cons_zero, List.set_cons_succ]
  have HD := Lib.hid (show RE w R s w0.drew from ⟨H0.out.1.below (Below.refl _ w0).drew, grown_trans H0.out.2 (grown_below (Below.refl _ w0).drew)⟩)
  have HQD := Lib.hid (show w0.drew.heap[Q]? = _ from HQ0.out)
  refine AU_one (i := 2) (o := _) (by kernel_rfl) rfl (fun K hK => ?_)
  have HH := Lib.hid hHeld
  have CC := Lib.hid (num_any R s.1 s.2 1 _ HD.out.1 (by omega) (by omega))
  clear hHeld
  go_simp
  refine CC.out.mono ?_
  rintro e wz1 ⟨rfl, hr, hg⟩
  have H1 := Lib.hid (show RE w R _ wz1 from ⟨hr, grown_trans HD.out.2 hg⟩)
  have hHeld : wz1.heap[X]? = some (Obj.cells #[.pointer (some ⟨R, 0, none⟩)] 76) := HD.out.1.keeps hg HH.out (by decide)
  have HQ1 := Lib.hid (HD.out.1.keeps hg HQD.out (by decide))
  clear HH hr hg CC
  refine hK.out _ _ (fun _ => hHeld) ?_
  clear hK K
  try simp only [Act.put, List.getElem_toArray, List.getElem_cons_zero, List.getElem_cons_succ, List.setIfInBounds_toArray, List.set_cons_zero, List.set_cons_succ]
  refine AU_one (i := 4) (o := _) (by kernel_rfl) rfl (fun K hK => ?_)
  have HH := Lib.hid hHeld
  have CC := Lib.hid (rnum_any (n := 1) H1.out.1 (by omega))
  clear hHeld
  go_simp
  refine CC.out.mono ?_
  rintro e wz2 ⟨rfl, hr, hg⟩
  have H2 := Lib.hid (show RE w R _ wz2 from ⟨hr, grown_trans H1.out.2 hg⟩)
  have hHeld : wz2.heap[X]? = some (Obj.cells #[.pointer (some ⟨R, 0, none⟩)] 76) := H1.out.1.keeps hg HH.out (by decide)
  have HQ2 := Lib.hid (H1.out.1.keeps hg HQ1.out (by decide))
  clear HH hr hg CC
  refine hK.out _ _ (fun _ => hHeld) ?_
  clear hK K
  try simp only [Act.put, List.getElem_toArray, List.getElem_cons_zero, List.getElem_cons_succ, List.setIfInBounds_toArray, List.set_cons_zero, List.set_cons_succ]
  refine AUS_take (by kernel_rfl) rfl (i := 5) (oi := _) (v := ?vw104) rfl (by kernel_rfl) (by kernel_rfl) (by kernel_rfl) (fun _ _ _ h => h) (Or.inl ⟨by rfl, ?hz104⟩) hHeld ?rst104
  case hz104 => (intro wS hSw; clear hSw; go_simp; try with_reducible rfl)
  simp only [Act.put, List.getElem_toArray, List.getElem_cons_zero, List.getElem_cons_succ, List.setIfInBounds_toArray, List.set_cons_zero, List.set_cons_succ]
  refine AU_one (i := 6) (o := _) (by kernel_rfl) rfl (fun K hK => ?_)
  refine step_store_row rfl 49 (.tmp 2) (.tmp 8) rfl Q #[.int .u64 ((rSl s).1.ct : Int), .int .i64 (rSl s).1.tk] rfl rfl 49 _ HQ2.out sizeSl rfl (by simp [Value.oneCell']) ?_
  have hHeld : (wz2.setRow Q #[.int .u64 ((rSl s).1.ct : Int), .int .i64 (rSl s).1.tk]).heap[X]? = some (Obj.cells #[.pointer (some ⟨R, 0, none⟩)] 76) := (setRow_other wz2 Q X _ fun e => absurd (cells_ty (by rw [← e]; exact hHeld) HQ2.out) (by decide)).trans hHeld
  have HE := Lib.hid (And.intro (show (wz2.setRow Q #[.int .u64 ((rSl s).1.ct : Int), .int .i64 (rSl s).1.tk]).heap[Q]? = some (Obj.cells #[.int .u64 ((rSl s).1.ct : Int), .int .i64 (rSl s).1.tk] 49) from setRow_heap _ Q _ _ _ _ HQ2.out) (show RE w R _ (wz2.setRow Q #[.int .u64 ((rSl s).1.ct : Int), .int .i64 (rSl s).1.tk]) from ⟨rd_row H2.out.1 HQ2.out (by decide) (by decide), grown_row H2.out.2 HL.out⟩))
  refine hK.out _ _ (fun _ => hHeld) ?_
  clear hK K
  try simp only [Act.put, List.getElem_toArray, List.getElem_cons_zero, List.getElem_cons_succ, List.setIfInBounds_toArray, List.set_cons_zero, List.set_cons_succ]
  refine AU_done (by kernel_rfl) ?_ _
  simp only [OnlyN]
  clear hHeld
  have HU := Lib.hid Try.underlying49
  go_wp2_with fail
  refine bodyPost_ret (results_cell_row (by rfl) _ _ Q 49 #[.int .u64 ((rSl s).1.ct : Int), .int .i64 (rSl s).1.tk] (0, 0) _ (by rfl) HE.out.1 HU.out rfl sizeSl) rfl ?_
  exact ⟨rfl, HE.out.2⟩
set_option maxHeartbeats 4000000 in
set_option maxRecDepth 100000 in
theorem rmap_any {w : World} {R : Nat} {s : St} (h : Rd w R s.1 s.2) : Calls Try.prog 63 #[.agg #[.pointer (some ⟨R, 0, none⟩)]] w fun e w' => e = .returned (.agg #[.int .i64 (rMp s).1.at_, .int .u64 ((rMp s).1.sg : Int), .int .i64 (rMp s).1.fr, .int .i64 (rMp s).1.n, .bool (rMp s).1.wr]) ∧ RE w R (rMp s).2 w' := by
  obtain ⟨wA, eA⟩ : ∃ wA, w.alloc (Obj.cells #[.pointer (some ⟨R, 0, none⟩)] 76) = wA := ⟨_, rfl⟩
  obtain ⟨X, eX⟩ : ∃ X, w.heap.size = X := ⟨_, rfl⟩
  have hbA : Below w.heap.size w wA := by rw [← eA]; exact below_alloc1 w _
  have hXA : wA.heap[X]? = some (Obj.cells #[.pointer (some ⟨R, 0, none⟩)] 76) := by rw [← eA, ← eX]; exact heap_alloc_new w _
  obtain ⟨w0, e0⟩ : ∃ w0, wA.alloc (Obj.cells #[.int .i64 0, .int .u64 0, .int .i64 0, .int .i64 0, .bool false] 93) = w0 := ⟨_, rfl⟩
  obtain ⟨Q, eQ⟩ : ∃ Q, wA.heap.size = Q := ⟨_, rfl⟩
  have hXQ : X + 1 = Q := by rw [← eQ, ← eA, ← eX]; simp
  have hb1 : Below wA.heap.size wA w0 := by rw [← e0]; exact below_alloc1 wA _
  have hQ : w0.heap[Q]? = some (Obj.cells #[.int .i64 0, .int .u64 0, .int .i64 0, .int .i64 0, .bool false] 93) := by rw [← e0, ← eQ]; exact heap_alloc_new wA _
  have hX := (hb1.block _ (Array.getElem?_eq_some_iff.1 hXA).1).trans hXA
  have hb0 : Below w.heap.size w w0 := hbA.trans (hb1.mono hbA.size)
  have H0 := Lib.hid (show RE w R s w0 from ⟨h.below hb0, grown_below hb0⟩)
  have HQ0 := Lib.hid hQ
  have HX := Lib.hid hX
  have HL := Lib.hid (show w.heap.size ≤ Q by omega)
  clear h hbA hXA hb1 hQ hX hb0
  go_enter Try.func63, Try.ntmps63
  go_upto_region 1 with fail
  try rw [eA]
  try rw [eX]
  try rw [hXQ]
  try rw [e0]
  clear eA e0 eX eQ hXQ
  have HF := Lib.hid (fun (wS : World) (hS : wS.heap[X]? = some (Obj.cells #[.pointer (some ⟨R, 0, none⟩)] 76)) => (show wS.cell? ⟨X, 0, none⟩ = some (.pointer (some ⟨R, 0, none⟩)) from by rw [cell_of_row _ _ _ _ _ (0, 0) hS]; rfl))
  refine region_AU (Z := fun _ => false) (S := fun wS => wS.heap[X]? = some (Obj.cells #[.pointer (some ⟨R, 0, none⟩)] 76)) (by kernel_rfl) (show w0.drew.heap[X]? = _ from HX.out) (fun hHeld => ?_)
  refine AUS_take (by kernel_rfl) rfl (i := 0) (oi := _) (v := ?vw201) rfl (by kernel_rfl) (by kernel_rfl) (by kernel_rfl) (fun _ _ _ h => h) (Or.inl ⟨by rfl, ?hz201⟩) hHeld ?rst201
  case hz201 => (intro wS hSw; obtain f0 := HF.out wS hSw; clear hSw; go_simp; try with_reducible rfl)
  simp only [Act.put, List.getElem_toArray, List.getElem_cons_zero, List.getElem_cons_succ, List.setIfInBounds_toArray, List.set_cons_zero, List.set_cons_succ]
  refine AUS_take (by kernel_rfl) rfl (i := 2) (oi := _) (v := ?vw202) rfl (by kernel_rfl) (by kernel_rfl) (by kernel_rfl) (fun _ _ _ h => h) (Or.inl ⟨by rfl, ?hz202⟩) hHeld ?rst202
  case hz202 => (intro wS hSw; obtain f0 := HF.out wS hSw; clear hSw; go_simp; try with_reducible rfl)
  simp only [Act.put, List.getElem_toArray, List.getElem_cons_zero, List.getElem_cons_succ, List.setIfInBounds_toArray, List.set_cons_zero, List.set_cons_succ]
  refine AUS_take (by kernel_rfl) rfl (i := 3) (oi := _) (v := ?vw203) rfl (by kernel_rfl) (by kernel_rfl) (by kernel_rfl) (fun _ _ _ h => h) (Or.inl ⟨by rfl, ?hz203⟩) hHeld ?rst203
  case hz203 => (intro wS hSw; obtain f0 := HF.out wS hSw; clear hSw; go_simp; try with_reducible rfl)
  simp only [Act.put, List.getElem_toArray, List.getElem_cons_zero, List.getElem_cons_succ, List.setIfInBounds_toArray, List.set_cons_zero, List.set_cons_succ]
  refine AUS_take (by kernel_rfl) rfl (i := 5) (oi := _) (v := ?vw204) rfl (by kernel_rfl) (by kernel_rfl) (by kernel_rfl) (fun _ _ _ h => h) (Or.inl ⟨by rfl, ?hz204⟩) hHeld ?rst204
  case hz204 => (intro wS hSw; obtain f0 := HF.out wS hSw; clear hSw; go_simp; try with_reducible rfl)
  simp only [Act.put, List.getElem_toArray, List.getElem_cons_zero, List.getElem_cons_succ, List.setIfInBounds_toArray, List.set_cons_zero, List.set_cons_succ]
  refine AUS_take (by kernel_rfl) rfl (i := 7) (oi := _) (v := ?vw205) rfl (by kernel_rfl) (by kernel_rfl) (by kernel_rfl) (fun _ _ _ h => h) (Or.inl ⟨by rfl, ?hz205⟩) hHeld ?rst205
  case hz205 => (intro wS hSw; obtain f0 := HF.out wS hSw; clear hSw; go_simp; try with_reducible rfl)
  simp only [Act.put, List.getElem_toArray, List.getElem_cons_zero, List.getElem_cons_succ, List.setIfInBounds_toArray, List.set_cons_zero, List.set_cons_succ]
  refine AUS_take (by kernel_rfl) rfl (i := 9) (oi := _) (v := ?vw206) rfl (by kernel_rfl) (by kernel_rfl) (by kernel_rfl) (fun _ _ _ h => h) (Or.inl ⟨by rfl, ?hz206⟩) hHeld ?rst206
  case hz206 => (intro wS hSw; obtain f0 := HF.out wS hSw; clear hSw; go_simp; try with_reducible rfl)
  simp only [Act.put, List.getElem_toArray, List.getElem_cons_zero, List.getElem_cons_succ, List.setIfInBounds_toArray, List.set_cons_zero, List.set_cons_succ]
  have HD := Lib.hid (show RE w R s w0.drew from ⟨H0.out.1.below (Below.refl _ w0).drew, grown_trans H0.out.2 (grown_below (Below.refl _ w0).drew)⟩)
  have HQD := Lib.hid (show w0.drew.heap[Q]? = _ from HQ0.out)
  refine AU_one (i := 1) (o := _) (by kernel_rfl) rfl (fun K hK => ?_)
  have HH := Lib.hid hHeld
  have CC := Lib.hid (rnum_any (n := 2) HD.out.1 (by omega))
  clear hHeld
  go_simp
  refine CC.out.mono ?_
  rintro e wz1 ⟨rfl, hr, hg⟩
  have H1 := Lib.hid (show RE w R _ wz1 from ⟨hr, grown_trans HD.out.2 hg⟩)
  have hHeld : wz1.heap[X]? = some (Obj.cells #[.pointer (some ⟨R, 0, none⟩)] 76) := HD.out.1.keeps hg HH.out (by decide)
  have HQ1 := Lib.hid (HD.out.1.keeps hg HQD.out (by decide))
  clear HH hr hg CC
  refine hK.out _ _ (fun _ => hHeld) ?_
  clear hK K
  try simp only [Act.put, List.getElem_toArray, List.getElem_cons_zero, List.getElem_cons_succ, List.setIfInBounds_toArray, List.set_cons_zero, List.set_cons_succ]
  refine AU_one (i := 4) (o := _) (by kernel_rfl) rfl (fun K hK => ?_)
  have HH := Lib.hid hHeld
  have CC := Lib.hid (num_any R _ _ 2 _ H1.out.1 (by omega) (by omega))
  clear hHeld
  go_simp
  refine CC.out.mono ?_
  rintro e wz2 ⟨rfl, hr, hg⟩
  have H2 := Lib.hid (show RE w R _ wz2 from ⟨hr, grown_trans H1.out.2 hg⟩)
  have hHeld : wz2.heap[X]? = some (Obj.cells #[.pointer (some ⟨R, 0, none⟩)] 76) := H1.out.1.keeps hg HH.out (by decide)
  have HQ2 := Lib.hid (H1.out.1.keeps hg HQ1.out (by decide))
  clear HH hr hg CC
  refine hK.out _ _ (fun _ => hHeld) ?_
  clear hK K
  try simp only [Act.put, List.getElem_toArray, List.getElem_cons_zero, List.getElem_cons_succ, List.setIfInBounds_toArray, List.set_cons_zero, List.set_cons_succ]
  refine AU_one (i := 6) (o := _) (by kernel_rfl) rfl (fun K hK => ?_)
  have HH := Lib.hid hHeld
  have CC := Lib.hid (rnum_any (n := 2) H2.out.1 (by omega))
  clear hHeld
  go_simp
  refine CC.out.mono ?_
  rintro e wz3 ⟨rfl, hr, hg⟩
  have H3 := Lib.hid (show RE w R _ wz3 from ⟨hr, grown_trans H2.out.2 hg⟩)
  have hHeld : wz3.heap[X]? = some (Obj.cells #[.pointer (some ⟨R, 0, none⟩)] 76) := H2.out.1.keeps hg HH.out (by decide)
  have HQ3 := Lib.hid (H2.out.1.keeps hg HQ2.out (by decide))
  clear HH hr hg CC
  refine hK.out _ _ (fun _ => hHeld) ?_
  clear hK K
  try simp only [Act.put, List.getElem_toArray, List.getElem_cons_zero, List.getElem_cons_succ, List.setIfInBounds_toArray, List.set_cons_zero, List.set_cons_succ]
  refine AU_one (i := 8) (o := _) (by kernel_rfl) rfl (fun K hK => ?_)
  have HH := Lib.hid hHeld
  have CC := Lib.hid (rnum_any (n := 2) H3.out.1 (by omega))
  clear hHeld
  go_simp
  refine CC.out.mono ?_
  rintro e wz4 ⟨rfl, hr, hg⟩
  have H4 := Lib.hid (show RE w R _ wz4 from ⟨hr, grown_trans H3.out.2 hg⟩)
  have hHeld : wz4.heap[X]? = some (Obj.cells #[.pointer (some ⟨R, 0, none⟩)] 76) := H3.out.1.keeps hg HH.out (by decide)
  have HQ4 := Lib.hid (H3.out.1.keeps hg HQ3.out (by decide))
  clear HH hr hg CC
  refine hK.out _ _ (fun _ => hHeld) ?_
  clear hK K
  try simp only [Act.put, List.getElem_toArray, List.getElem_cons_zero, List.getElem_cons_succ, List.setIfInBounds_toArray, List.set_cons_zero, List.set_cons_succ]
  refine AU_one (i := 10) (o := _) (by kernel_rfl) rfl (fun K hK => ?_)
  have HH := Lib.hid hHeld
  have CC := Lib.hid (ryes_any H4.out.1)
  clear hHeld
  go_simp
  refine CC.out.mono ?_
  rintro e wz5 ⟨rfl, hr, hg⟩
  have H5 := Lib.hid (show RE w R _ wz5 from ⟨hr, grown_trans H4.out.2 hg⟩)
  have hHeld : wz5.heap[X]? = some (Obj.cells #[.pointer (some ⟨R, 0, none⟩)] 76) := H4.out.1.keeps hg HH.out (by decide)
  have HQ5 := Lib.hid (H4.out.1.keeps hg HQ4.out (by decide))
  clear HH hr hg CC
  refine hK.out _ _ (fun _ => hHeld) ?_
  clear hK K
  try simp only [Act.put, List.getElem_toArray, List.getElem_cons_zero, List.getElem_cons_succ, List.setIfInBounds_toArray, List.set_cons_zero, List.set_cons_succ]
  refine AUS_take (by kernel_rfl) rfl (i := 11) (oi := _) (v := ?vw207) rfl (by kernel_rfl) (by kernel_rfl) (by kernel_rfl) (fun _ _ _ h => h) (Or.inl ⟨by rfl, ?hz207⟩) hHeld ?rst207
  case hz207 => (intro wS hSw; clear hSw; go_simp; try with_reducible rfl)
  simp only [Act.put, List.getElem_toArray, List.getElem_cons_zero, List.getElem_cons_succ, List.setIfInBounds_toArray, List.set_cons_zero, List.set_cons_succ]
  refine AU_one (i := 12) (o := _) (by kernel_rfl) rfl (fun K hK => ?_)
  refine step_store_row rfl 93 (.tmp 2) (.tmp 14) rfl Q #[.int .i64 (rMp s).1.at_, .int .u64 ((rMp s).1.sg : Int), .int .i64 (rMp s).1.fr, .int .i64 (rMp s).1.n, .bool (rMp s).1.wr] rfl rfl 93 _ HQ5.out sizeM rfl (by simp [Value.oneCell']) ?_
  have hHeld : (wz5.setRow Q #[.int .i64 (rMp s).1.at_, .int .u64 ((rMp s).1.sg : Int), .int .i64 (rMp s).1.fr, .int .i64 (rMp s).1.n, .bool (rMp s).1.wr]).heap[X]? = some (Obj.cells #[.pointer (some ⟨R, 0, none⟩)] 76) := (setRow_other wz5 Q X _ fun e => absurd (cells_ty (by rw [← e]; exact hHeld) HQ5.out) (by decide)).trans hHeld
  have HE := Lib.hid (And.intro (show (wz5.setRow Q #[.int .i64 (rMp s).1.at_, .int .u64 ((rMp s).1.sg : Int), .int .i64 (rMp s).1.fr, .int .i64 (rMp s).1.n, .bool (rMp s).1.wr]).heap[Q]? = some (Obj.cells #[.int .i64 (rMp s).1.at_, .int .u64 ((rMp s).1.sg : Int), .int .i64 (rMp s).1.fr, .int .i64 (rMp s).1.n, .bool (rMp s).1.wr] 93) from setRow_heap _ Q _ _ _ _ HQ5.out) (show RE w R _ (wz5.setRow Q #[.int .i64 (rMp s).1.at_, .int .u64 ((rMp s).1.sg : Int), .int .i64 (rMp s).1.fr, .int .i64 (rMp s).1.n, .bool (rMp s).1.wr]) from ⟨rd_row H5.out.1 HQ5.out (by decide) (by decide), grown_row H5.out.2 HL.out⟩))
  refine hK.out _ _ (fun _ => hHeld) ?_
  clear hK K
  try simp only [Act.put, List.getElem_toArray, List.getElem_cons_zero, List.getElem_cons_succ, List.setIfInBounds_toArray, List.set_cons_zero, List.set_cons_succ]
  refine AU_done (by kernel_rfl) ?_ _
  simp only [OnlyN]
  clear hHeld
  have HU := Lib.hid Try.underlying93
  go_wp2_with fail
  refine bodyPost_ret (results_cell_row (by rfl) _ _ Q 93 #[.int .i64 (rMp s).1.at_, .int .u64 ((rMp s).1.sg : Int), .int .i64 (rMp s).1.fr, .int .i64 (rMp s).1.n, .bool (rMp s).1.wr] (0, 0) _ (by rfl) HE.out.1 HU.out rfl sizeM) rfl ?_
  exact ⟨rfl, HE.out.2⟩
end Go.Proofs.Ytmadldgajjgbmaa
