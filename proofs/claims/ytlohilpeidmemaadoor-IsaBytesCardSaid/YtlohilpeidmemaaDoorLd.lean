import Derived.Test.YtlohilpeidmemaaDoorLc
import Derived.Deep.CutBlock
import Derived.Deep.DeepCutAuto
namespace Go.Proofs.YtlohilpeidmemaaDoor
open Go.RowKit
set_option linter.unusedVariables false
set_option linter.unusedSimpArgs false

/-- Eight bytes that are an instruction's. -/
theorem bytes_right (bl off c : Nat) (x0 x1 x2 x3 x4 x5 x6 x7 : Nat) (w : World) (hc : 8 ≤ c) (hr : BR w (some ⟨bl, off, none⟩) [x0, x1, x2, x3, x4, x5, x6, x7]) (hb : ∀ y ∈ [x0, x1, x2, x3, x4, x5, x6, x7], y < 256)
    (hR : Isa.Right x0 x1 x2 x3) (hL : Laid w) :
    Calls Tryd.prog 4 #[.slice (some ⟨bl, off, none⟩) 8 c] w fun e w' => e = .returned (.bool true) ∧ Below w.heap.size w w' := by
  have C0 := Lib.hid (fit_any w hL)
  obtain ⟨m, em⟩ : ∃ m, Isa.im [x4, x5, x6, x7] = m := ⟨_, rfl⟩
  have C1 := Lib.hid (fun (W : World) (h : BR W (some ⟨bl, off, none⟩) [x0, x1, x2, x3, x4, x5, x6, x7]) => decode_in bl off c x0 x1 x2 x3 x4 x5 x6 x7 W hc h hb m em true (decide_eq_true hR) (.agg #[.int .i64 x0, .int .i64 x1, .int .i64 x2, .int .i64 x3, .int .i32 m]) rfl)
  have C2 := Lib.hid (fun (W : World) => lright_any x0 x1 x2 x3 m W)
  rw [decide_eq_true hR] at C2
  have C3 := Lib.hid (fun (W : World) => encode_any x0 x1 x2 x3 m W)
  have HE : Isa.enc x0 x1 x2 x3 m = [x0, x1, x2, x3, x4, x5, x6, x7] := by
    rw [← em]
    exact enc_im (hb x0 (by simp)) (hb x1 (by simp)) (hb x2 (by simp)) (hb x3 (by simp)) (hb x4 (by simp)) (hb x5 (by simp)) (hb x6 (by simp)) (hb x7 (by simp))
  rw [HE] at C3
  have HRR := Lib.hid hr
  obtain ⟨t, et⟩ : ∃ t, U [x0, x1, x2, x3, x4, x5, x6, x7] = t := ⟨_, rfl⟩
  have CV := Lib.hid (fun (W : World) (h : BR W (some ⟨bl, off, none⟩) [x0, x1, x2, x3, x4, x5, x6, x7]) => conv_bytes W (some ⟨bl, off, none⟩) 8 c _ rfl h)
  have CW := Lib.hid (fun (W : World) (g : Nat) (h : BR W (some ⟨g, 0, none⟩) [x0, x1, x2, x3, x4, x5, x6, x7]) => conv_bytes W (some ⟨g, 0, none⟩) 8 8 _ rfl h)
  rw [et] at CV CW
  clear hL hr hb hR HE em et
  go_enter Tryd.func4, Tryd.ntmps4
  go_wp2_with fail
  refine C0.out.mono ?_
  rintro e w1 ⟨rfl, hb⟩
  have HB := Lib.hid hb
  clear hb C0
  go_wp2_with fail
  refine (C1.out _ (HRR.out.below HB.out)).mono ?_
  rintro e w2 ⟨rfl, hb⟩
  have HB2 := Lib.hid ((HB.out.trans (hb.mono HB.out.size)).alloc (HB.out.trans (hb.mono HB.out.size)).size (Obj.cells #[.int .i64 x0, .int .i64 x1, .int .i64 x2, .int .i64 x3, .int .i32 m] 23))
  have HX := Lib.hid (heap_alloc_new w2 (Obj.cells #[.int .i64 x0, .int .i64 x1, .int .i64 x2, .int .i64 x3, .int .i32 m] 23))
  clear hb HB C1
  go_upto_region 8 with fail
  obtain ⟨wx, ew⟩ : ∃ wx, w2.alloc (Obj.cells #[.int .i64 x0, .int .i64 x1, .int .i64 x2, .int .i64 x3, .int .i32 m] 23) = wx := ⟨_, rfl⟩
  rw [ew] at HB2 HX
  rw [ew]
  have KS := Lib.hid (fun (W : World) (h : Below wx.heap.size wx W) => (show W.cell? ⟨w2.heap.size, 0, none⟩ = some (.int .i64 x0) ∧ W.cell? ⟨w2.heap.size, 1, none⟩ = some (.int .i64 x1) ∧ W.cell? ⟨w2.heap.size, 2, none⟩ = some (.int .i64 x2) ∧ W.cell? ⟨w2.heap.size, 3, none⟩ = some (.int .i64 x3) ∧ W.cell? ⟨w2.heap.size, 4, none⟩ = some (.int .i32 m) ∧
      (convert 27 9 (.slice (some ⟨bl, off, none⟩) 8 c)).run Tryd.prog W = .ok (.string (S t)) W from by
    have hx := (h.block _ (Array.getElem?_eq_some_iff.1 HX.out).1).trans HX.out
    exact ⟨cell_of_row _ _ 0 _ 23 (0, 0) hx, cell_of_row _ _ 1 _ 23 (0, 0) hx, cell_of_row _ _ 2 _ 23 (0, 0) hx, cell_of_row _ _ 3 _ 23 (0, 0) hx, cell_of_row _ _ 4 _ 23 (0, 0) hx, CV.out W ((HRR.out.below HB2.out).below h)⟩))
  have hcall := Lib.hid ((Below.refl wx.heap.size wx).drew)
  clear HX ew HRR CV
  refine wp_region_held_drew (S := fun w' => w'.cell? ⟨w2.heap.size, 0, none⟩ = some (.int .i64 x0) ∧ w'.cell? ⟨w2.heap.size, 1, none⟩ = some (.int .i64 x1) ∧ w'.cell? ⟨w2.heap.size, 2, none⟩ = some (.int .i64 x2) ∧ w'.cell? ⟨w2.heap.size, 3, none⟩ = some (.int .i64 x3) ∧ w'.cell? ⟨w2.heap.size, 4, none⟩ = some (.int .i32 m) ∧ (convert 27 9 (.slice (some ⟨bl, off, none⟩) 8 c)).run Tryd.prog w' = .ok (.string (S t)) w') (by kernel_rfl) (KS.out _ hcall.out) (fun hHeld => ?_)
  refine wpAnyH_take (i := 0) (oi := { dst := some 51, op := Op.load 23 (Operand.tmp 3), type := 23, pos := "law.go:69", after := #[], guard := none }) (v := ?vv1) rfl (by kernel_rfl) (by kernel_rfl) (by kernel_rfl) (fun _ _ _ h => h) (Or.inl ⟨by rfl, ?hy1⟩) hHeld ?rest1
  case hy1 => (intro wS hSw; (try dsimp only at hSw); go_simp; try with_reducible rfl)
  simp only [Act.put, List.setIfInBounds_toArray, List.set_cons_zero, List.set_cons_succ]
  refine wpAnyH_ready (rs := [1]) (by kernel_rfl) (by simp) ?_
  refine AllReadyH.cons (o := { dst := some 52, op := Op.call { callee := Callee.value (Operand.func 10), args := #[Operand.tmp 51], argTypes := #[23] }, type := 4, pos := "law.go:69", after := #[{ on := 0, ground := Ground.data }], guard := none }) rfl (fun K hK => ?_) AllReadyH.nil
  go_simp
  with_reducible refine (C2.out _).mono ?_
  rintro e wq ⟨rfl, hb'⟩
  replace hcall := Lib.hid (hcall.out.trans (hb'.mono hcall.out.size))
  clear hb'
  clear hHeld
  try go_wp2_with fail
  refine hK.out _ _ (KS.out _ hcall.out) (fun hHeld => ?_)
  clear hK K
  try simp only [Act.put, List.setIfInBounds_toArray, List.set_cons_zero, List.set_cons_succ]
  refine wpAnyH_take (i := 2) (oi := { dst := some 53, op := Op.move (Operand.tmp 52), type := 4, pos := "law.go:69", after := #[{ on := 1, ground := Ground.data }, { on := 1, ground := Ground.chain }], guard := none }) (v := ?vv2) rfl (by kernel_rfl) (by kernel_rfl) (by kernel_rfl) (fun _ _ _ h => h) (Or.inl ⟨by rfl, ?hy2⟩) hHeld ?rest2
  case hy2 => (intro wS hSw; (try dsimp only at hSw); go_simp; try with_reducible rfl)
  simp only [Act.put, List.setIfInBounds_toArray, List.set_cons_zero, List.set_cons_succ]
  refine wpAnyH_take (i := 3) (oi := { dst := some 54, op := Op.load 23 (Operand.tmp 3), type := 23, pos := "law.go:69", after := #[{ on := 2, ground := Ground.guard }], guard := some (2, true) }) (v := ?vv3) rfl (by kernel_rfl) (by kernel_rfl) (by kernel_rfl) (fun _ _ _ h => h) (Or.inl ⟨by rfl, ?hy3⟩) hHeld ?rest3
  case hy3 => (intro wS hSw; (try dsimp only at hSw); go_simp; try with_reducible rfl)
  simp only [Act.put, List.setIfInBounds_toArray, List.set_cons_zero, List.set_cons_succ]
  refine wpAnyH_take (i := 6) (oi := { dst := some 57, op := Op.move (Operand.tmp 0), type := 27, pos := "law.go:69", after := #[{ on := 2, ground := Ground.guard }], guard := some (2, true) }) (v := ?vv4) rfl (by kernel_rfl) (by kernel_rfl) (by kernel_rfl) (fun _ _ _ h => h) (Or.inl ⟨by rfl, ?hy4⟩) hHeld ?rest4
  case hy4 => (intro wS hSw; (try dsimp only at hSw); go_simp; try with_reducible rfl)
  simp only [Act.put, List.setIfInBounds_toArray, List.set_cons_zero, List.set_cons_succ]
  refine wpAnyH_take (i := 7) (oi := { dst := some 58, op := Op.convert 27 9 (Operand.tmp 57), type := 9, pos := "law.go:69", after := #[{ on := 6, ground := Ground.data }, { on := 2, ground := Ground.guard }], guard := some (2, true) }) (v := ?vv5) rfl (by kernel_rfl) (by kernel_rfl) (by kernel_rfl) (fun _ _ _ h => h) (Or.inl ⟨by rfl, ?hy5⟩) hHeld ?rest5
  case hy5 => (intro wS hSw; (try dsimp only at hSw); go_simp; try with_reducible rfl)
  simp only [Act.put, List.setIfInBounds_toArray, List.set_cons_zero, List.set_cons_succ]
  refine wpAnyH_ready (rs := [4]) (by kernel_rfl) (by simp) ?_
  refine AllReadyH.cons (o := { dst := some 55, op := Op.call { callee := Callee.value (Operand.func 12), args := #[Operand.tmp 54], argTypes := #[23] }, type := 27, pos := "law.go:69", after := #[{ on := 3, ground := Ground.data }, { on := 2, ground := Ground.chain }, { on := 2, ground := Ground.guard }], guard := some (2, true) }) rfl (fun K hK => ?_) AllReadyH.nil
  go_simp
  with_reducible refine (C3.out _).mono ?_
  rintro e wr ⟨g, rfl, hbr, hb'⟩
  have cv := CW.out _ g hbr
  replace hcall := Lib.hid (hcall.out.trans (hb'.mono hcall.out.size))
  clear hb' hbr
  clear hHeld
  try go_wp2_with fail
  refine hK.out _ _ (KS.out _ hcall.out) (fun hHeld => ?_)
  clear hK K
  try simp only [Act.put, List.setIfInBounds_toArray, List.set_cons_zero, List.set_cons_succ]
  refine wpAnyH_ready (rs := [5]) (by kernel_rfl) (by simp) ?_
  refine AllReadyH.cons (o := { dst := some 56, op := Op.convert 27 9 (Operand.tmp 55), type := 9, pos := "law.go:69", after := #[{ on := 4, ground := Ground.data }, { on := 2, ground := Ground.guard }], guard := some (2, true) }) rfl (fun K hK => ?_) AllReadyH.nil
  go_simp
  clear hHeld
  refine hK.out _ _ (KS.out _ hcall.out) (fun hHeld => ?_)
  clear hK K
  try simp only [Act.put, List.setIfInBounds_toArray, List.set_cons_zero, List.set_cons_succ]
  refine wpAnyH_take (i := 8) (oi := { dst := some 59, op := Op.binOp BinOp.eql 9 (Operand.tmp 56) (Operand.tmp 58) 9, type := 4, pos := "law.go:69", after := #[{ on := 5, ground := Ground.data }, { on := 7, ground := Ground.data }, { on := 2, ground := Ground.guard }], guard := some (2, true) }) (v := ?vv6) rfl (by kernel_rfl) (by kernel_rfl) (by kernel_rfl) (fun _ _ _ h => h) (Or.inl ⟨by rfl, ?hy6⟩) hHeld ?rest6
  case hy6 => (intro wS hSw; (try dsimp only at hSw); go_simp; try with_reducible rfl)
  simp only [Act.put, List.setIfInBounds_toArray, List.set_cons_zero, List.set_cons_succ]
  refine wpAnyH_take (i := 9) (oi := { dst := some 60, op := Op.pick (Operand.tmp 53) (Operand.tmp 59) (Operand.const (Value.bool false)), type := 4, pos := "law.go:69", after := #[{ on := 2, ground := Ground.data }, { on := 8, ground := Ground.data }], guard := none }) (v := ?vv7) rfl (by kernel_rfl) (by kernel_rfl) (by kernel_rfl) (fun _ _ _ h => h) (Or.inl ⟨by rfl, ?hy7⟩) hHeld ?rest7
  case hy7 => (intro wS hSw; (try dsimp only at hSw); go_simp; try with_reducible rfl)
  simp only [Act.put, List.setIfInBounds_toArray, List.set_cons_zero, List.set_cons_succ]
  refine wpAnyH_take (i := 10) (oi := { dst := some 2, op := Op.assign (Operand.tmp 60), type := 4, pos := "law.go:69", after := #[{ on := 9, ground := Ground.data }, { on := 4, ground := Ground.chain }, { on := 0, ground := Ground.phase }, { on := 1, ground := Ground.phase }, { on := 2, ground := Ground.phase }, { on := 3, ground := Ground.phase }, { on := 4, ground := Ground.phase }, { on := 5, ground := Ground.phase }, { on := 6, ground := Ground.phase }, { on := 7, ground := Ground.phase }, { on := 8, ground := Ground.phase }, { on := 9, ground := Ground.phase }], guard := none }) (v := ?vv8) rfl (by kernel_rfl) (by kernel_rfl) (by kernel_rfl) (fun _ _ _ h => h) (Or.inl ⟨by rfl, ?hy8⟩) hHeld ?rest8
  case hy8 => (intro wS hSw; (try dsimp only at hSw); go_simp; try with_reducible rfl)
  simp only [Act.put, List.setIfInBounds_toArray, List.set_cons_zero, List.set_cons_succ]
  refine wpAnyH_done (by kernel_rfl) ?_ _
  go_wp2_with fail
  go_ret
  exact ⟨ret_true (by simp), HB2.out.trans (hcall.out.mono HB2.out.size)⟩
theorem bytes_law (A : Option Addr) (n c : Nat) (bs : List Nat) (w : World) (hn : bs.length = n) (hm : n ≤ 9223372036854775807) (hc : n ≤ c) (hr : BR w A bs) (hb : ∀ y ∈ bs, y < 256) (hL : Laid w) :
    Calls Tryd.prog 4 #[.slice A n c] w fun e w' => e = .returned (.bool true) ∧ Below w.heap.size w w' := by
  by_cases h8 : n = 8
  · subst hn
    match bs, h8 with
    | [x0, x1, x2, x3, x4, x5, x6, x7], _ =>
      obtain ⟨bl, off, rfl, _, _⟩ := hr 0 x0 rfl
      by_cases hR : Isa.Right x0 x1 x2 x3
      · exact bytes_right bl off c x0 x1 x2 x3 x4 x5 x6 x7 w hc hr hb hR hL
      · exact bytes_wrong bl off c x0 x1 x2 x3 x4 x5 x6 x7 w hc hr hb hR hL
  · exact bytes_bad A n c w h8 hm hL
end Go.Proofs.YtlohilpeidmemaaDoor
