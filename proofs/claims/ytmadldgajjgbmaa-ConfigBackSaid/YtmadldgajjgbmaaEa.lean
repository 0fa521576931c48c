/- config.packet, Script of the example; fit. -/
import Derived.Test.YtmadldgajjgbmaaDe
import Derived.Test.YtmadldgajjgbmaaCd
set_option linter.unusedVariables false
set_option linter.unusedSimpArgs false
namespace Go.Proofs.Ytmadldgajjgbmaa
open Go.RowKit
set_option linter.unusedVariables false
set_option linter.unusedSimpArgs false
set_option maxHeartbeats 4000000 in
set_option maxRecDepth 100000 in
theorem packet_eg {w : World} {B off : Nat} (h0 : w.cell? ⟨B, off, none⟩ = some (.int .u8 2)) (h1 : w.cell? ⟨B, off + 1, none⟩ = some (.int .u8 7)) (hB : B < w.heap.size) :
    Calls Try.prog 32 #[.slice (some ⟨B, off, none⟩) 2 2] w fun e w' => ∃ a k, e = .returned (.tuple #[.slice a 1 k, .slice (some ⟨B, off, none⟩) 0 0]) ∧ Below w.heap.size w w' := by
  have H := Lib.hid (And.intro h0 (And.intro h1 hB))
  have m1 : min (2 : Int) 1 = 1 := by decide
  have m2 : IntKind.i64.wrap 2 = 2 := by rw [IntKind.wrap_i64]; rfl
  go_enter Try.func32, Try.ntmps32
  go_upto_region 4 with fail
  clear h0 h1 hB
  refine region_AU (Z := fun j => false) (S := fun w' => Below w.heap.size w w') (by kernel_rfl) ((Below.refl _ _).drew) (fun hHeld => ?_)
  refine AUS_take (by kernel_rfl) rfl (i := 0) (oi := _) (v := ?vw101) rfl (by kernel_rfl) (by kernel_rfl) (by kernel_rfl) (fun _ _ _ h => h) (Or.inl ⟨by rfl, ?hz101⟩) hHeld ?rst101
  case hz101 => (intro wS hSw; clear hSw; go_simp; try with_reducible rfl)
  simp only [Act.put, List.getElem_toArray, List.getElem_cons_zero, List.getElem_cons_succ, List.setIfInBounds_toArray, List.set_cons_zero, List.set_cons_succ]
  refine AUS_take (by kernel_rfl) rfl (i := 1) (oi := _) (v := ?vw102) rfl (by kernel_rfl) (by kernel_rfl) (by kernel_rfl) (fun _ _ _ h => h) (Or.inl ⟨by rfl, ?hz102⟩) hHeld ?rst102
  case hz102 => (intro wS hSw; clear hSw; go_simp; try with_reducible rfl)
  simp only [Act.put, List.getElem_toArray, List.getElem_cons_zero, List.getElem_cons_succ, List.setIfInBounds_toArray, List.set_cons_zero, List.set_cons_succ]
  refine AUS_take (by kernel_rfl) rfl (i := 2) (oi := _) (v := ?vw103) rfl (by kernel_rfl) (by kernel_rfl) (by kernel_rfl) (fun _ _ _ h => h) (Or.inl ⟨by rfl, ?hz103⟩) hHeld ?rst103
  case hz103 => (intro wS hSw; clear hSw; go_simp; try with_reducible rfl)
  simp only [Act.put, List.getElem_toArray, List.getElem_cons_zero, List.getElem_cons_succ, List.setIfInBounds_toArray, List.set_cons_zero, List.set_cons_succ]
  refine AUS_take (by kernel_rfl) rfl (i := 3) (oi := _) (v := ?vw104) rfl (by kernel_rfl) (by kernel_rfl) (by kernel_rfl) (fun _ _ _ h => h) (Or.inl ⟨by rfl, ?hz104⟩) hHeld ?rst104
  case hz104 => (intro wS hSw; clear hSw; go_simp; try with_reducible rfl)
  simp only [Act.put, List.getElem_toArray, List.getElem_cons_zero, List.getElem_cons_succ, List.setIfInBounds_toArray, List.set_cons_zero, List.set_cons_succ]
  refine AUS_take (by kernel_rfl) rfl (i := 4) (oi := _) (v := ?vw105) rfl (by kernel_rfl) (by kernel_rfl) (by kernel_rfl) (fun _ _ _ h => h) (Or.inl ⟨by rfl, ?hz105⟩) hHeld ?rst105
  case hz105 => (intro wS hSw; clear hSw; go_simp; try with_reducible rfl)
  simp only [Act.put, List.getElem_toArray, List.getElem_cons_zero, List.getElem_cons_succ, List.setIfInBounds_toArray, List.set_cons_zero, List.set_cons_succ]
  refine AUS_take (by kernel_rfl) rfl (i := 6) (oi := _) (v := ?vw106) rfl (by kernel_rfl) (by kernel_rfl) (by kernel_rfl) (fun _ _ _ h => h) (Or.inl ⟨by rfl, ?hz106⟩) hHeld ?rst106
  case hz106 => (intro wS hSw; clear hSw; go_simp; try with_reducible rfl)
  simp only [Act.put, List.getElem_toArray, List.getElem_cons_zero, List.getElem_cons_succ, List.setIfInBounds_toArray, List.set_cons_zero, List.set_cons_succ]
  refine AUS_take (by kernel_rfl) rfl (i := 7) (oi := _) (v := ?vw107) rfl (by kernel_rfl) (by kernel_rfl) (by kernel_rfl) (fun _ _ _ h => h) (Or.inl ⟨by rfl, ?hz107⟩) hHeld ?rst107
  case hz107 => (intro wS hSw; clear hSw; go_simp; try with_reducible rfl)
  simp only [Act.put, List.getElem_toArray, List.getElem_cons_zero, List.getElem_cons_succ, List.setIfInBounds_toArray, List.set_cons_zero, List.set_cons_succ]
  refine AUS_take (by kernel_rfl) rfl (i := 8) (oi := _) (v := ?vw108) rfl (by kernel_rfl) (by kernel_rfl) (by kernel_rfl) (fun _ _ _ h => h) (Or.inl ⟨by rfl, ?hz108⟩) hHeld ?rst108
  case hz108 => (intro wS hSw; clear hSw; go_simp; try with_reducible rfl)
  simp only [Act.put, List.getElem_toArray, List.getElem_cons_zero, List.getElem_cons_succ, List.setIfInBounds_toArray, List.set_cons_zero, List.set_cons_succ]
  refine AUS_take (by kernel_rfl) rfl (i := 9) (oi := _) (v := ?vw109) rfl (by kernel_rfl) (by kernel_rfl) (by kernel_rfl) (fun _ _ _ h => h) (Or.inl ⟨by rfl, ?hz109⟩) hHeld ?rst109
  case hz109 => (intro wS hSw; clear hSw; go_simp; try with_reducible rfl)
  simp only [Act.put, List.getElem_toArray, List.getElem_cons_zero, List.getElem_cons_succ, List.setIfInBounds_toArray, List.set_cons_zero, List.set_cons_succ]
  obtain ⟨vd, w2, hrun, hrv, hb2⟩ := app_by (w := w.drew) (A := some ⟨B, off + 1, none⟩) (n := 1) (c := 1) (xs := [7]) 33 rfl (by omega) (by omega) (fun i x hi => by
    match i, hi with
    | 0, hi => obtain rfl : 7 = x := by simpa using hi
               exact ⟨_, _, rfl, H.out.2.2, H.out.2.1⟩)
  obtain ⟨a3, c3, evd, _⟩ := hrv.form
  subst evd
  have HB := Lib.hid ((Below.refl _ w).drew.trans hb2)
  refine AU_one (i := 5) (o := _) (by kernel_rfl) rfl (fun K hK => ?_)
  refine step_append rfl (.tmp 17) (.tmp 21) 33 33 rfl _ _ _ rfl rfl w2 hrun ?_
  refine hK.out _ _ (fun _ => HB.out) ?_
  clear hK K hrun
  try simp only [Act.put, List.getElem_toArray, List.getElem_cons_zero, List.getElem_cons_succ, List.setIfInBounds_toArray, List.set_cons_zero, List.set_cons_succ]
  have hHeld := HB.out
  refine AUS_take (by kernel_rfl) rfl (i := 10) (oi := _) (v := ?vw110) rfl (by kernel_rfl) (by kernel_rfl) (by kernel_rfl) (fun _ _ _ h => h) (Or.inl ⟨by rfl, ?hz110⟩) hHeld ?rst110
  case hz110 => (intro wS hSw; clear hSw; go_simp; try with_reducible rfl)
  simp only [Act.put, List.getElem_toArray, List.getElem_cons_zero, List.getElem_cons_succ, List.setIfInBounds_toArray, List.set_cons_zero, List.set_cons_succ]
  refine AUS_take (by kernel_rfl) rfl (i := 11) (oi := _) (v := ?vw111) rfl (by kernel_rfl) (by kernel_rfl) (by kernel_rfl) (fun _ _ _ h => h) (Or.inl ⟨by rfl, ?hz111⟩) hHeld ?rst111
  case hz111 => (intro wS hSw; clear hSw; go_simp; try with_reducible rfl)
  simp only [Act.put, List.getElem_toArray, List.getElem_cons_zero, List.getElem_cons_succ, List.setIfInBounds_toArray, List.set_cons_zero, List.set_cons_succ]
  refine AU_done (by kernel_rfl) ?_ _
  simp only [OnlyN]
  go_wp2_with fail
  go_ret2
  exact ⟨_, _, rfl, HB.out⟩
/-- An act in memory. -/
structure Ac where
  k : Int
  n : Int
  d : Option Addr
  l : Nat
  c : Nat
def encAc (x : Ac) : List Value := [.int .i64 x.k, .int .i64 x.n, .slice x.d x.l x.c]
theorem infoAc : (Try.prog.info? 54).map (fun i => (i.zero, i.size, i.bytes)) = some (some (.agg #[.int .i64 0, .int .i64 0, .slice none 0 0]), 3, 40) := by kernel_rfl
theorem app_ac {w : World} (ty : TypeId) (x : Ac) :
    ∃ A c w', (Builtin.append_ #[51, 51] ty #[.slice none 0 0, .slice (some ⟨w.heap.size, 0, none⟩) 1 1]).run Try.prog (w.alloc (Obj.cells #[.int .i64 x.k, .int .i64 x.n, .slice x.d x.l x.c] 54)) = .ok (.slice A 1 c) w' ∧ LV 3 encAc w' A [x] ∧ Below w.heap.size w w' := by
  obtain ⟨i, hi, hz, hsz, hby⟩ := info_parts infoAc
  have b1 := below_alloc1 w (Obj.cells #[.int .i64 x.k, .int .i64 x.n, .slice x.d x.l x.c] 54)
  have hn := heap_alloc_new w (Obj.cells #[.int .i64 x.k, .int .i64 x.n, .slice x.d x.l x.c] 54)
  obtain ⟨v', w', hrun, hr, S, hT, hS⟩ := append_rv (P := Try.prog) (own := fun _ => False) (enc := encAc) (sz := 3) (xs := []) (ys := [x]) 51 ty i _ 40 Try.underlying51 hi hz hsz hby (by omega) rfl (fun _ => rfl) (fun y => by simp [encAc, Value.oneCell']) (by omega) (RV.nil _ _) (by simp) (some ⟨w.heap.size, 0, none⟩) 1 (by simp) (fun i' q hq => by
    match i', hq with
    | 0, hq =>
      obtain rfl : x = q := by simpa using hq
      refine ⟨_, _, rfl, (Array.getElem?_eq_some_iff.1 hn).1, fun j u hu => ?_⟩
      rw [cell_of_row _ _ _ _ _ (0, 0) hn]
      simpa [encAc] using hu)
  obtain ⟨A, c, rfl, _, _, hlv⟩ := hr.form
  exact ⟨A, c, w', hrun, hlv, b1.trans ((below_none hT fun b hb => (hS b hb).1).mono b1.size)⟩
set_option maxHeartbeats 4000000 in
set_option maxRecDepth 100000 in
theorem script_eg {w : World} {B : Nat} (h0 : w.cell? ⟨B, 0, none⟩ = some (.int .u8 3)) (h1 : w.cell? ⟨B, 1, none⟩ = some (.int .u8 2)) (h2 : w.cell? ⟨B, 2, none⟩ = some (.int .u8 7)) (hB : B < w.heap.size) :
    Calls Try.prog 16 #[.slice (some ⟨B, 0, none⟩) 3 3] w fun e w' => ∃ A c x, e = .returned (.slice A 1 c) ∧ LV 3 encAc w' A [x] ∧ x.k = 2 ∧ x.l = 1 ∧ Below w.heap.size w w' := by
  have H := Lib.hid (And.intro h0 (And.intro h1 (And.intro h2 hB)))
  clear h0 h1 h2 hB
  go_enter Try.func16, Try.ntmps16
  go_wp2_with fail
  go_loopg [0, 3] 1 (fun gh vb vl wr => (1 ≤ gh ∧ vb = .slice (some ⟨B, 0, none⟩) 3 3 ∧ vl = .slice none 0 0 ∧ Hid (Below w.heap.size w wr)) ∨ (∃ a c A c' x, vb = .slice a 0 c ∧ vl = .slice A 1 c' ∧ Hid (LV 3 encAc wr A [x] ∧ x.k = 2 ∧ x.l = 1 ∧ Below w.heap.size w wr)))
  case atStart => exact .inl ⟨Nat.le_refl _, rfl, rfl, Lib.hid (Below.refl _ _)⟩
  case round =>
    rcases hrel with ⟨hg, rfl, rfl, hI⟩ | ⟨a, c, A, c', x, rfl, rfl, hI⟩
    · have HG := Lib.hid hg
      have k0 : wr.cell? ⟨B, 0, none⟩ = some (.int .u8 3) := by rw [hI.out.cell (p := ⟨B, 0, none⟩) H.out.2.2.2]; exact H.out.1
      clear hg
      go_upto_region 4 with fail
      obtain ⟨L, eL⟩ : ∃ L, wr.heap.size = L := ⟨_, rfl⟩
      obtain ⟨w1, e1⟩ : ∃ w1, wr.alloc (Obj.cells #[.int .i64 0, .int .i64 0, .slice none 0 0] 54) = w1 := ⟨_, rfl⟩
      have hb1 : Below wr.heap.size wr w1 := by rw [← e1]; exact below_alloc1 wr _
      have hL1 : w1.heap[L]? = some (Obj.cells #[.int .i64 0, .int .i64 0, .slice none 0 0] 54) := by rw [← e1, ← eL]; exact heap_alloc_new wr _
      have hBL : B ≠ L := by have := H.out.2.2.2; have := hI.out.size; omega
      have hLw : w.heap.size ≤ L := by rw [← eL]; exact hI.out.size
      have k1 : w1.cell? ⟨B, 0, none⟩ = some (.int .u8 3) := by rw [hb1.cell (p := ⟨B, 0, none⟩) (World.block_lt_of_cell? wr _ k0)]; exact k0
      try rw [e1]
      try rw [eL]
      obtain ⟨w2, e2⟩ : ∃ w2, w1.setCell ⟨L, 0, none⟩ (.int .i64 2) = w2 := ⟨_, rfl⟩
      have f1 : ∀ i, w1.frozen? ⟨L, i, none⟩ = false := fun i => frozen_of_row _ _ _ _ _ hL1
      have c1 : w1.cell? ⟨L, 0, none⟩ = some (.int .i64 0) := by rw [cell_of_row _ _ _ _ _ (0, 0) hL1]; rfl
      have hB1 : Below w.heap.size w w1 := hI.out.trans (hb1.mono hI.out.size)
      have hL2 : w2.heap[L]? = some (Obj.cells #[.int .i64 2, .int .i64 0, .slice none 0 0] 54) := by rw [← e2]; exact heap_setCell_same w1 L 0 _ 54 _ hL1
      have hB2 : Below w.heap.size w w2 := by rw [← e2]; exact hB1.setCell (p := ⟨L, 0, none⟩) hLw _
      have CP := Lib.hid (packet_eg (w := w2) (B := B) (off := 1) (by rw [hB2.cell (p := ⟨B, 1, none⟩) H.out.2.2.2]; exact H.out.2.1) (by rw [hB2.cell (p := ⟨B, 1 + 1, none⟩) H.out.2.2.2]; exact H.out.2.2.1) (Nat.lt_of_lt_of_le H.out.2.2.2 hB2.size))
      have HL := Lib.hid (And.intro hL2 (And.intro hB2 hLw))
      clear k0 hb1 hL1 hBL hLw e1 eL hB1 hL2 hB2 hI
      go_upto_region 11 with fail
      try rw [e2]
      clear e2 k1 f1 c1
      go_wp2_with fail
      refine CP.out.mono ?_; rintro e w3 ⟨a, k, rfl, hb3⟩
      have hL3 : w3.heap[L]? = some (Obj.cells #[.int .i64 2, .int .i64 0, .slice none 0 0] 54) := (hb3.block _ (Array.getElem?_eq_some_iff.1 HL.out.1).1).trans HL.out.1
      have hB3 : Below w.heap.size w w3 := HL.out.2.1.trans (hb3.mono HL.out.2.1.size)
      have f3 : ∀ i, w3.frozen? ⟨L, i, none⟩ = false := fun i => frozen_of_row _ _ _ _ _ hL3
      have c3 : w3.cell? ⟨L, 2, none⟩ = some (.slice none 0 0) := by rw [cell_of_row _ _ _ _ _ (0, 0) hL3]; rfl
      obtain ⟨w4, e4⟩ : ∃ w4, w3.setCell ⟨L, 2, none⟩ (.slice a 1 k) = w4 := ⟨_, rfl⟩
      have hL4 : w4.heap[L]? = some (Obj.cells #[.int .i64 2, .int .i64 0, .slice a 1 k] 54) := by rw [← e4]; exact heap_setCell_same w3 L 2 _ 54 _ hL3
      have hB4 : Below w.heap.size w w4 := by rw [← e4]; exact hB3.setCell (p := ⟨L, 2, none⟩) HL.out.2.2 _
      have g0 : w4.cell? ⟨L, 0, none⟩ = some (.int .i64 2) := by rw [cell_of_row _ _ _ _ _ (0, 0) hL4]; rfl
      have g1 : w4.cell? ⟨L, 1, none⟩ = some (.int .i64 0) := by rw [cell_of_row _ _ _ _ _ (0, 0) hL4]; rfl
      have g2 : w4.cell? ⟨L, 2, none⟩ = some (.slice a 1 k) := by rw [cell_of_row _ _ _ _ _ (0, 0) hL4]; rfl
      obtain ⟨A, c, w5, hrun, hlv, hb5⟩ := app_ac (w := w4) 51 ⟨2, 0, a, 1, k⟩
      have HR := Lib.hid hrun
      have HF := Lib.hid (And.intro hlv (hB4.trans (hb5.mono hB4.size)))
      clear hb3 CP hL3 hB3 hL4 hB4 hrun hlv hb5
      go_upto_region 12 with fail
      try rw [e4]
      clear e4 f3 c3
      go_wp2_with (at_builtin; refine wpList_append_by rfl (.tmp 34) (.tmp 36) _ _ rfl _ _ _ rfl rfl w5 HR.out ?_)
      go_roundg 0
      case rel => exact .inr ⟨_, _, A, c, ⟨2, 0, a, 1, k⟩, rfl, rfl, Lib.hid ⟨HF.out.1, rfl, rfl, HF.out.2⟩⟩
      case measure => have := HG.out; omega
    · go_wp2_with fail
      go_ret
      exact ⟨A, c', x, rfl, hI.out⟩
set_option maxHeartbeats 4000000 in
set_option maxRecDepth 100000 in
theorem fit_any (w : World) : Calls Try.prog 7 #[] w (BB w true) := by
  obtain ⟨B, eB⟩ : ∃ B, w.heap.size = B := ⟨_, rfl⟩
  obtain ⟨w1, e1⟩ : ∃ w1, w.alloc (Obj.cells #[.int .u8 3, .int .u8 2, .int .u8 7] 5) = w1 := ⟨_, rfl⟩
  have hb1 : Below w.heap.size w w1 := by rw [← e1]; exact below_alloc1 w _
  have hB1 : w1.heap[B]? = some (Obj.cells #[.int .u8 3, .int .u8 2, .int .u8 7] 5) := by rw [← e1, ← eB]; exact heap_alloc_new w _
  have CS := Lib.hid (script_eg (w := w1) (B := B) (by rw [cell_of_row _ _ _ _ _ (0, 0) hB1]; rfl) (by rw [cell_of_row _ _ _ _ _ (0, 0) hB1]; rfl) (by rw [cell_of_row _ _ _ _ _ (0, 0) hB1]; rfl) (Array.getElem?_eq_some_iff.1 hB1).1)
  have HB := Lib.hid hb1
  clear hb1 hB1
  go_enter Try.func7, Try.ntmps7
  go_upto_region 1 with fail
  go_wp2_with fail
  try rw [e1]
  try rw [eB]
  refine CS.out.mono ?_; rintro e w2 ⟨A, c, x, rfl, hlv, hk, hl, hb2⟩
  clear e1 eB CS
  obtain ⟨b, off, rfl⟩ := hlv.some_ (by simp)
  have k0 := hlv.at_ (i := 0) (j := 0) (x := x) (u := .int .i64 x.k) rfl rfl
  have k2 := hlv.at_ (i := 0) (j := 2) (x := x) (u := .slice x.d x.l x.c) rfl rfl
  simp only [Nat.zero_mul, Nat.add_zero] at k0 k2
  rw [hk] at k0
  rw [hl] at k2
  have HB2 := Lib.hid (HB.out.trans (hb2.mono HB.out.size))
  obtain ⟨S, eS⟩ : ∃ S, w2.heap.size = S := ⟨_, rfl⟩
  obtain ⟨w3, e3⟩ : ∃ w3, w2.alloc (Obj.cells #[.int .u64 0, .int .i64 1] 49) = w3 := ⟨_, rfl⟩
  have hb3 : Below w2.heap.size w2 w3 := by rw [← e3]; exact below_alloc1 w2 _
  have hS3 : w3.heap[S]? = some (Obj.cells #[.int .u64 0, .int .i64 1] 49) := by rw [← e3, ← eS]; exact heap_alloc_new w2 _
  have CR := cright_any (W := w3) (co := 1) (fr := 1) (nm := 0) (A1 := some ⟨S, 0, none⟩) (A2 := none) (l1 := 1) (l2 := 0) (c1 := 1) (c2 := 0) (xs := [⟨0, 1⟩]) (ovs := []) ⟨⟨rfl, by decide⟩, fun i x hi => by
    match i, hi with
    | 0, hi =>
      obtain rfl : (⟨0, 1⟩ : Sl) = x := by simpa using hi
      refine ⟨S, 0, rfl, (Array.getElem?_eq_some_iff.1 hS3).1, fun j u hu => ?_⟩
      rw [cell_of_row _ _ _ _ _ (0, 0) hS3]
      simpa [encSl, inU] using hu, fun x hx => by
    obtain rfl : x = ⟨0, 1⟩ := by simpa using hx
    exact ⟨by decide, by unfold Bi; decide⟩, ⟨rfl, by decide⟩, LV.nil _ _, fun o ho => by cases ho⟩ (Nat.le_refl _)
  rw [show rightB 1 1 0 [⟨0, 1⟩] (([] : List Ov).map Ov.m) = true by decide] at CR
  have CR := Lib.hid CR
  have HB3 := Lib.hid (HB2.out.trans (hb3.mono HB2.out.size))
  clear hlv hk hl hb2 hb3 hS3 HB HB2
  go_wp2_with fail
  try rw [e3]
  try rw [eS]
  refine CR.out.mono ?_; rintro e w4 ⟨rfl, hb4⟩
  have HB4 := Lib.hid (HB3.out.trans (hb4.mono HB3.out.size))
  clear e3 eS CR HB3 hb4 k0 k2
  go_wp2_with fail
  go_ret
  exact ⟨rfl, HB4.out⟩
end Go.Proofs.Ytmadldgajjgbmaa
