import Derived.Test.YtlohilpeidmemaaDoorLc
import Derived.Deep.CutBlock
import Derived.Deep.DeepCutAuto
namespace Go.Proofs.YtlohilpeidmemaaDoor
open Go.RowKit
set_option linter.unusedVariables false
set_option linter.unusedSimpArgs false
/-- Two instructions in blocks of their own. -/
def TW (w W : World) (o a b c m o' a' b' c' m' : Int) : Prop :=
  W.heap[w.heap.size]? = some (Obj.cells #[.int .i64 o, .int .i64 a, .int .i64 b, .int .i64 c, .int .i32 m] 23) ∧ W.heap[w.heap.size + 1]? = some (Obj.cells #[.int .i64 o', .int .i64 a', .int .i64 b', .int .i64 c', .int .i32 m'] 23) ∧ Below w.heap.size w W
theorem TW.on {w W W' : World} {o a b c m o' a' b' c' m' : Int} (h : TW w W o a b c m o' a' b' c' m') (hb : Below W.heap.size W W') : TW w W' o a b c m o' a' b' c' m' :=
  ⟨(hb.block _ (Array.getElem?_eq_some_iff.1 h.1).1).trans h.1, (hb.block _ (Array.getElem?_eq_some_iff.1 h.2.1).1).trans h.2.1, h.2.2.trans (hb.mono h.2.2.size)⟩
theorem TW.cells {w W : World} {o a b c m o' a' b' c' m' : Int} (h : TW w W o a b c m o' a' b' c' m') :
    W.cell? ⟨w.heap.size, 0, none⟩ = some (.int .i64 o) ∧ W.cell? ⟨w.heap.size, 1, none⟩ = some (.int .i64 a) ∧ W.cell? ⟨w.heap.size, 2, none⟩ = some (.int .i64 b) ∧ W.cell? ⟨w.heap.size, 3, none⟩ = some (.int .i64 c) ∧ W.cell? ⟨w.heap.size, 4, none⟩ = some (.int .i32 m) ∧
    W.cell? ⟨w.heap.size + 1, 0, none⟩ = some (.int .i64 o') ∧ W.cell? ⟨w.heap.size + 1, 1, none⟩ = some (.int .i64 a') ∧ W.cell? ⟨w.heap.size + 1, 2, none⟩ = some (.int .i64 b') ∧ W.cell? ⟨w.heap.size + 1, 3, none⟩ = some (.int .i64 c') ∧ W.cell? ⟨w.heap.size + 1, 4, none⟩ = some (.int .i32 m') :=
  ⟨cell_of_row _ _ 0 _ 23 (0, 0) h.1, cell_of_row _ _ 1 _ 23 (0, 0) h.1, cell_of_row _ _ 2 _ 23 (0, 0) h.1, cell_of_row _ _ 3 _ 23 (0, 0) h.1, cell_of_row _ _ 4 _ 23 (0, 0) h.1,
   cell_of_row _ _ 0 _ 23 (0, 0) h.2.1, cell_of_row _ _ 1 _ 23 (0, 0) h.2.1, cell_of_row _ _ 2 _ 23 (0, 0) h.2.1, cell_of_row _ _ 3 _ 23 (0, 0) h.2.1, cell_of_row _ _ 4 _ 23 (0, 0) h.2.1⟩
theorem TW.start (w : World) (o a b c m o' a' b' c' m' : Int) : TW w ((w.alloc (Obj.cells #[.int .i64 o, .int .i64 a, .int .i64 b, .int .i64 c, .int .i32 m] 23)).alloc (Obj.cells #[.int .i64 o', .int .i64 a', .int .i64 b', .int .i64 c', .int .i32 m'] 23)) o a b c m o' a' b' c' m' := by
  refine ⟨?_, heap_alloc2_new w _ _, ((Below.refl w.heap.size w).alloc (Nat.le_refl _) _).alloc (by simp) _⟩
  rw [heap_alloc_old _ _ (by simp)]
  exact heap_alloc_new w _
theorem enc_bytes {o a b c m o' a' b' c' m' : Int} (h : Isa.Right o a b c) (h' : Isa.Right o' a' b' c') (hm : -2147483648 ≤ m ∧ m ≤ 2147483647) (hm' : -2147483648 ≤ m' ∧ m' ≤ 2147483647)
    (e : U (Isa.enc o a b c m) = U (Isa.enc o' a' b' c' m')) : o = o' ∧ a = a' ∧ b = b' ∧ c = c' ∧ m = m' := by
  obtain ⟨r1, r2, r3, r4, r5, r6, r7, r8⟩ := h
  obtain ⟨s1, s2, s3, s4, s5, s6, s7, s8⟩ := h'
  have ub : ∀ {x y : Int}, UInt8.ofNat (x % 256).toNat = UInt8.ofNat (y % 256).toNat → x % 256 = y % 256 := fun {x y} h => by
    have := congrArg UInt8.toNat h
    rw [UInt8.toNat_ofNat', UInt8.toNat_ofNat'] at this
    omega
  unfold U Isa.enc at e
  simp only [List.map_cons, List.map_nil, List.cons.injEq, and_true] at e
  obtain ⟨e0, e1, e2, e3, e4, e5, e6, e7⟩ := e
  have f0 := ub e0
  have f1 := ub e1
  have f2 := ub e2
  have f3 := ub e3
  have f4 := ub e4
  have f5 := ub e5
  have f6 := ub e6
  have f7 := ub e7
  clear e0 e1 e2 e3 e4 e5 e6 e7 ub
  refine ⟨by omega, by omega, by omega, by omega, ?_⟩
  clear f0 f1 f2 f3 r1 r2 r3 r4 r5 r6 r7 r8 s1 s2 s3 s4 s5 s6 s7 s8
  have g1 : m = m / 256 * 256 + m % 256 := by omega
  have g2 : m / 256 = m / 65536 * 256 + m / 256 % 256 := by omega
  have g3 : m / 65536 = m / 16777216 * 256 + m / 65536 % 256 := by omega
  have g4 : -128 ≤ m / 16777216 ∧ m / 16777216 ≤ 127 := by omega
  have g1' : m' = m' / 256 * 256 + m' % 256 := by omega
  have g2' : m' / 256 = m' / 65536 * 256 + m' / 256 % 256 := by omega
  have g3' : m' / 65536 = m' / 16777216 * 256 + m' / 65536 % 256 := by omega
  have g4' : -128 ≤ m' / 16777216 ∧ m' / 16777216 ≤ 127 := by omega
  have k4 : m / 16777216 = m' / 16777216 := by
    generalize m / 16777216 = x at *
    generalize m' / 16777216 = y at *
    clear g1 g2 g3 g1' g2' g3' f5 f6 f7
    omega
  have k3 : m / 65536 = m' / 65536 := by rw [g3, g3', k4, f5]
  have k2 : m / 256 = m' / 256 := by rw [g2, g2', k3, f6]
  rw [g1, g1', k2, f7]
set_option maxHeartbeats 4000000 in
theorem apart_right (o a b c m o' a' b' c' m' : Int) (w : World) (hR : Isa.Right o a b c) (hR' : Isa.Right o' a' b' c') (hm : -2147483648 ≤ m ∧ m ≤ 2147483647) (hm' : -2147483648 ≤ m' ∧ m' ≤ 2147483647) (hL : Laid w) :
    Calls Tryd.prog 7 #[.agg #[.int .i64 o, .int .i64 a, .int .i64 b, .int .i64 c, .int .i32 m], .agg #[.int .i64 o', .int .i64 a', .int .i64 b', .int .i64 c', .int .i32 m']] w fun e w' => e = .returned (.bool true) ∧ Below w.heap.size w w' := by
  have HL := Lib.hid hL
  have C2 := Lib.hid (fun (W : World) => lright_any o a b c m W)
  have C3 := Lib.hid (fun (W : World) => lright_any o' a' b' c' m' W)
  rw [decide_eq_true hR] at C2
  rw [decide_eq_true hR'] at C3
  have E2 := Lib.hid (fun (W : World) => encode_any o a b c m W)
  have E3 := Lib.hid (fun (W : World) => encode_any o' a' b' c' m' W)
  have T2 := Lib.hid (fun (W : World) (h : Laid W) => text_right o a b c m W hR hm h)
  have T3 := Lib.hid (fun (W : World) (h : Laid W) => text_right o' a' b' c' m' W hR' hm' h)
  have V2 := Lib.hid (fun (W : World) (g : Nat) (h : BR W (some ⟨g, 0, none⟩) (Isa.enc o a b c m)) => conv_bytes W (some ⟨g, 0, none⟩) 8 8 _ rfl h)
  have V3 := Lib.hid (fun (W : World) (g : Nat) (h : BR W (some ⟨g, 0, none⟩) (Isa.enc o' a' b' c' m')) => conv_bytes W (some ⟨g, 0, none⟩) 8 8 _ rfl h)
  have IE := Lib.hid (fun h => enc_bytes hR hR' hm hm' h)
  have IT := Lib.hid (fun h => Isa.txt_inj hR hR' hm.1 hm.2 hm'.1 hm'.2 h)
  have IF := Lib.hid (show o = o' ∧ a = a' ∧ b = b' ∧ c = c' ∧ m = m' → U (Isa.enc o a b c m) = U (Isa.enc o' a' b' c' m') ∧ Isa.txt o a b c m = Isa.txt o' a' b' c' m' from fun ⟨e1, e2, e3, e4, e5⟩ => by rw [e1, e2, e3, e4, e5]; exact ⟨rfl, rfl⟩)
  have C0 := Lib.hid (fun (W : World) (h : Laid W) => fit_any W h)
  have HT := Lib.hid (TW.start w o a b c m o' a' b' c' m')
  obtain ⟨x, ex⟩ : ∃ x, Isa.enc o a b c m = x := ⟨_, rfl⟩
  obtain ⟨y, ey⟩ : ∃ y, Isa.enc o' a' b' c' m' = y := ⟨_, rfl⟩
  obtain ⟨s, es⟩ : ∃ s, Isa.txt o a b c m = s := ⟨_, rfl⟩
  obtain ⟨t, et⟩ : ∃ t, Isa.txt o' a' b' c' m' = t := ⟨_, rfl⟩
  rw [ex] at E2 V2 IE IF
  rw [ey] at E3 V3 IE IF
  rw [es] at T2 IT IF
  rw [et] at T3 IT IF
  obtain ⟨u, eu⟩ : ∃ u, U x = u := ⟨_, rfl⟩
  obtain ⟨v, ev⟩ : ∃ v, U y = v := ⟨_, rfl⟩
  rw [eu] at V2 IE IF
  rw [ev] at V3 IE IF
  clear hL hm hm' hR hR' ex ey es et eu ev
  go_enter Tryd.func7, Tryd.ntmps7
  go_wp2_with fail
  refine (C0.out _ (HL.out.on HT.out.2.2)).mono ?_
  rintro e w1 ⟨rfl, hb⟩
  have HT1 := Lib.hid (HT.out.on hb)
  clear hb HT C0
  obtain ⟨p0, p1, p2, p3, p4, q0, q1, q2, q3, q4⟩ := HT1.out.cells
  go_wp2_with fail
  refine (C2.out _).mono ?_
  rintro e w2 ⟨rfl, hb⟩
  have HT2 := Lib.hid (HT1.out.on hb)
  clear hb HT1 C2 p0 p1 p2 p3 p4 q0 q1 q2 q3 q4
  obtain ⟨p0, p1, p2, p3, p4, q0, q1, q2, q3, q4⟩ := HT2.out.cells
  go_wp2_with fail
  refine (C3.out _).mono ?_
  rintro e wx ⟨rfl, hb⟩
  have HTX := Lib.hid (HT2.out.on hb)
  clear hb HT2 C3 p0 p1 p2 p3 p4 q0 q1 q2 q3 q4
  go_upto_region 5 with fail
  have KS := Lib.hid (fun (W : World) (h : Below wx.heap.size wx W) => (HTX.out.on h).cells)
  have hcall := Lib.hid ((Below.refl wx.heap.size wx).drew)
  go_cut [5, 6] (fun s5 s6 W => Hid (s5 = .string (S u) ∧ s6 = .string (S v) ∧ Below wx.heap.size wx W))
  case first =>
    refine wp_region_held_drew (S := fun w' => w'.cell? ⟨w.heap.size, 0, none⟩ = some (.int .i64 o) ∧ w'.cell? ⟨w.heap.size, 1, none⟩ = some (.int .i64 a) ∧ w'.cell? ⟨w.heap.size, 2, none⟩ = some (.int .i64 b) ∧ w'.cell? ⟨w.heap.size, 3, none⟩ = some (.int .i64 c) ∧ w'.cell? ⟨w.heap.size, 4, none⟩ = some (.int .i32 m) ∧ w'.cell? ⟨w.heap.size + 1, 0, none⟩ = some (.int .i64 o') ∧ w'.cell? ⟨w.heap.size + 1, 1, none⟩ = some (.int .i64 a') ∧ w'.cell? ⟨w.heap.size + 1, 2, none⟩ = some (.int .i64 b') ∧ w'.cell? ⟨w.heap.size + 1, 3, none⟩ = some (.int .i64 c') ∧ w'.cell? ⟨w.heap.size + 1, 4, none⟩ = some (.int .i32 m')) (by kernel_rfl) (KS.out _ hcall.out) (fun hHeld => ?_)
    refine wpAnyH_take (i := 0) (oi := { dst := some 17, op := Op.load 23 (Operand.tmp 2), type := 23, pos := "law.go:105", after := #[], guard := none }) (v := ?vv1) rfl (by kernel_rfl) (by kernel_rfl) (by kernel_rfl) (fun _ _ _ h => h) (Or.inl ⟨by rfl, ?hy1⟩) hHeld ?rest1
    case hy1 => (intro wS hSw; (try dsimp only at hSw); go_simp; try with_reducible rfl)
    simp only [Act.put, List.setIfInBounds_toArray, List.set_cons_zero, List.set_cons_succ]
    refine wpAnyH_take (i := 3) (oi := { dst := some 20, op := Op.load 23 (Operand.tmp 3), type := 23, pos := "law.go:105", after := #[], guard := none }) (v := ?vv2) rfl (by kernel_rfl) (by kernel_rfl) (by kernel_rfl) (fun _ _ _ h => h) (Or.inl ⟨by rfl, ?hy2⟩) hHeld ?rest2
    case hy2 => (intro wS hSw; (try dsimp only at hSw); go_simp; try with_reducible rfl)
    simp only [Act.put, List.setIfInBounds_toArray, List.set_cons_zero, List.set_cons_succ]
    refine wpAnyH_ready (rs := [1]) (by kernel_rfl) (by simp) ?_
    refine AllReadyH.cons (o := { dst := some 18, op := Op.call { callee := Callee.value (Operand.func 12), args := #[Operand.tmp 17], argTypes := #[23] }, type := 27, pos := "law.go:105", after := #[{ on := 0, ground := Ground.data }], guard := none }) rfl (fun K hK => ?_) AllReadyH.nil
    go_simp
    with_reducible refine (E2.out _).mono ?_
    rintro e wq ⟨g1, rfl, hbr, hb'⟩
    have HBA := Lib.hid hbr
    replace hcall := Lib.hid (hcall.out.trans (hb'.mono hcall.out.size))
    clear hb' hbr
    clear hHeld
    try go_wp2_with fail
    refine hK.out _ _ (KS.out _ hcall.out) (fun hHeld => ?_)
    clear hK K
    try simp only [Act.put, List.setIfInBounds_toArray, List.set_cons_zero, List.set_cons_succ]
    refine wpAnyH_ready (rs := [2, 4]) (by kernel_rfl) (by simp) ?_
    refine AllReadyH.cons (o := { dst := some 19, op := Op.convert 27 9 (Operand.tmp 18), type := 9, pos := "law.go:105", after := #[{ on := 1, ground := Ground.data }], guard := none }) rfl (fun K hK => ?_) ?_
    · skip
      have cv := V2.out _ _ HBA.out
      go_simp
      clear hHeld
      refine hK.out _ _ (KS.out _ hcall.out) (fun hHeld => ?_)
      clear hK K
      try simp only [Act.put, List.setIfInBounds_toArray, List.set_cons_zero, List.set_cons_succ]
      refine wpAnyH_ready (rs := [4]) (by kernel_rfl) (by simp) ?_
      refine AllReadyH.cons (o := { dst := some 21, op := Op.call { callee := Callee.value (Operand.func 12), args := #[Operand.tmp 20], argTypes := #[23] }, type := 27, pos := "law.go:105", after := #[{ on := 3, ground := Ground.data }, { on := 1, ground := Ground.chain }], guard := none }) rfl (fun K hK => ?_) AllReadyH.nil
      go_simp
      with_reducible refine (E3.out _).mono ?_
      rintro e wr ⟨g2, rfl, hbr, hb'⟩
      have HBB := Lib.hid hbr
      replace HBA := Lib.hid (HBA.out.below hb')
      replace hcall := Lib.hid (hcall.out.trans (hb'.mono hcall.out.size))
      clear hb' hbr
      clear hHeld
      try go_wp2_with fail
      refine hK.out _ _ (KS.out _ hcall.out) (fun hHeld => ?_)
      clear hK K
      try simp only [Act.put, List.setIfInBounds_toArray, List.set_cons_zero, List.set_cons_succ]
      refine wpAnyH_take (i := 6) (oi := { dst := some 5, op := Op.assign (Operand.tmp 19), type := 9, pos := "law.go:105", after := #[{ on := 2, ground := Ground.data }, { on := 4, ground := Ground.chain }, { on := 0, ground := Ground.phase }, { on := 1, ground := Ground.phase }, { on := 2, ground := Ground.phase }, { on := 3, ground := Ground.textOnly Departure.lateStores }, { on := 4, ground := Ground.textOnly Departure.lateStoresUnsure }, { on := 5, ground := Ground.textOnly Departure.lateStores }], guard := none }) (v := ?vv3) rfl (by kernel_rfl) (by kernel_rfl) (by kernel_rfl) (fun _ _ _ h => h) (Or.inl ⟨by rfl, ?hy3⟩) hHeld ?rest3
      case hy3 => (intro wS hSw; (try dsimp only at hSw); go_simp; try with_reducible rfl)
      simp only [Act.put, List.setIfInBounds_toArray, List.set_cons_zero, List.set_cons_succ]
      refine wpAnyH_ready (rs := [5]) (by kernel_rfl) (by simp) ?_
      refine AllReadyH.cons (o := { dst := some 22, op := Op.convert 27 9 (Operand.tmp 21), type := 9, pos := "law.go:105", after := #[{ on := 4, ground := Ground.data }, { on := 6, ground := Ground.gcOnly Departure.lateStores }], guard := none }) rfl (fun K hK => ?_) AllReadyH.nil
      have cv2 := V3.out _ _ HBB.out
      go_simp
      clear hHeld
      refine hK.out _ _ (KS.out _ hcall.out) (fun hHeld => ?_)
      clear hK K
      try simp only [Act.put, List.setIfInBounds_toArray, List.set_cons_zero, List.set_cons_succ]
      refine wpAnyH_take (i := 7) (oi := { dst := some 6, op := Op.assign (Operand.tmp 22), type := 9, pos := "law.go:105", after := #[{ on := 5, ground := Ground.data }, { on := 6, ground := Ground.chain }, { on := 0, ground := Ground.phase }, { on := 1, ground := Ground.phase }, { on := 2, ground := Ground.phase }, { on := 3, ground := Ground.phase }, { on := 4, ground := Ground.phase }, { on := 5, ground := Ground.phase }, { on := 6, ground := Ground.phase }], guard := none }) (v := ?vv4) rfl (by kernel_rfl) (by kernel_rfl) (by kernel_rfl) (fun _ _ _ h => h) (Or.inl ⟨by rfl, ?hy4⟩) hHeld ?rest4
      case hy4 => (intro wS hSw; (try dsimp only at hSw); go_simp; try with_reducible rfl)
      simp only [Act.put, List.setIfInBounds_toArray, List.set_cons_zero, List.set_cons_succ]
      refine wpAnyH_done (by kernel_rfl) ?_ _
      try go_wp2_with fail
      go_meet
      exact Lib.hid ⟨rfl, rfl, hcall.out⟩
    refine AllReadyH.cons (o := { dst := some 21, op := Op.call { callee := Callee.value (Operand.func 12), args := #[Operand.tmp 20], argTypes := #[23] }, type := 27, pos := "law.go:105", after := #[{ on := 3, ground := Ground.data }, { on := 1, ground := Ground.chain }], guard := none }) rfl (fun K hK => ?_) AllReadyH.nil
    go_simp
    with_reducible refine (E3.out _).mono ?_
    rintro e wr ⟨g2, rfl, hbr, hb'⟩
    have HBB := Lib.hid hbr
    replace HBA := Lib.hid (HBA.out.below hb')
    replace hcall := Lib.hid (hcall.out.trans (hb'.mono hcall.out.size))
    clear hb' hbr
    clear hHeld
    try go_wp2_with fail
    refine hK.out _ _ (KS.out _ hcall.out) (fun hHeld => ?_)
    clear hK K
    try simp only [Act.put, List.setIfInBounds_toArray, List.set_cons_zero, List.set_cons_succ]
    refine wpAnyH_ready (rs := [2, 5]) (by kernel_rfl) (by simp) ?_
    refine AllReadyH.cons (o := { dst := some 19, op := Op.convert 27 9 (Operand.tmp 18), type := 9, pos := "law.go:105", after := #[{ on := 1, ground := Ground.data }], guard := none }) rfl (fun K hK => ?_) ?_
    · skip
      have cv := V2.out _ _ HBA.out
      go_simp
      clear hHeld
      refine hK.out _ _ (KS.out _ hcall.out) (fun hHeld => ?_)
      clear hK K
      try simp only [Act.put, List.setIfInBounds_toArray, List.set_cons_zero, List.set_cons_succ]
      refine wpAnyH_take (i := 6) (oi := { dst := some 5, op := Op.assign (Operand.tmp 19), type := 9, pos := "law.go:105", after := #[{ on := 2, ground := Ground.data }, { on := 4, ground := Ground.chain }, { on := 0, ground := Ground.phase }, { on := 1, ground := Ground.phase }, { on := 2, ground := Ground.phase }, { on := 3, ground := Ground.textOnly Departure.lateStores }, { on := 4, ground := Ground.textOnly Departure.lateStoresUnsure }, { on := 5, ground := Ground.textOnly Departure.lateStores }], guard := none }) (v := ?vv5) rfl (by kernel_rfl) (by kernel_rfl) (by kernel_rfl) (fun _ _ _ h => h) (Or.inl ⟨by rfl, ?hy5⟩) hHeld ?rest5
      case hy5 => (intro wS hSw; (try dsimp only at hSw); go_simp; try with_reducible rfl)
      simp only [Act.put, List.setIfInBounds_toArray, List.set_cons_zero, List.set_cons_succ]
      refine wpAnyH_ready (rs := [5]) (by kernel_rfl) (by simp) ?_
      refine AllReadyH.cons (o := { dst := some 22, op := Op.convert 27 9 (Operand.tmp 21), type := 9, pos := "law.go:105", after := #[{ on := 4, ground := Ground.data }, { on := 6, ground := Ground.gcOnly Departure.lateStores }], guard := none }) rfl (fun K hK => ?_) AllReadyH.nil
      have cv2 := V3.out _ _ HBB.out
      go_simp
      clear hHeld
      refine hK.out _ _ (KS.out _ hcall.out) (fun hHeld => ?_)
      clear hK K
      try simp only [Act.put, List.setIfInBounds_toArray, List.set_cons_zero, List.set_cons_succ]
      refine wpAnyH_take (i := 7) (oi := { dst := some 6, op := Op.assign (Operand.tmp 22), type := 9, pos := "law.go:105", after := #[{ on := 5, ground := Ground.data }, { on := 6, ground := Ground.chain }, { on := 0, ground := Ground.phase }, { on := 1, ground := Ground.phase }, { on := 2, ground := Ground.phase }, { on := 3, ground := Ground.phase }, { on := 4, ground := Ground.phase }, { on := 5, ground := Ground.phase }, { on := 6, ground := Ground.phase }], guard := none }) (v := ?vv6) rfl (by kernel_rfl) (by kernel_rfl) (by kernel_rfl) (fun _ _ _ h => h) (Or.inl ⟨by rfl, ?hy6⟩) hHeld ?rest6
      case hy6 => (intro wS hSw; (try dsimp only at hSw); go_simp; try with_reducible rfl)
      simp only [Act.put, List.setIfInBounds_toArray, List.set_cons_zero, List.set_cons_succ]
      refine wpAnyH_done (by kernel_rfl) ?_ _
      try go_wp2_with fail
      go_meet
      exact Lib.hid ⟨rfl, rfl, hcall.out⟩
    refine AllReadyH.cons (o := { dst := some 22, op := Op.convert 27 9 (Operand.tmp 21), type := 9, pos := "law.go:105", after := #[{ on := 4, ground := Ground.data }, { on := 6, ground := Ground.gcOnly Departure.lateStores }], guard := none }) rfl (fun K hK => ?_) AllReadyH.nil
    have cv2 := V3.out _ _ HBB.out
    go_simp
    clear hHeld
    refine hK.out _ _ (KS.out _ hcall.out) (fun hHeld => ?_)
    clear hK K
    try simp only [Act.put, List.setIfInBounds_toArray, List.set_cons_zero, List.set_cons_succ]
    refine wpAnyH_ready (rs := [2]) (by kernel_rfl) (by simp) ?_
    refine AllReadyH.cons (o := { dst := some 19, op := Op.convert 27 9 (Operand.tmp 18), type := 9, pos := "law.go:105", after := #[{ on := 1, ground := Ground.data }], guard := none }) rfl (fun K hK => ?_) AllReadyH.nil
    have cv := V2.out _ _ HBA.out
    go_simp
    clear hHeld
    refine hK.out _ _ (KS.out _ hcall.out) (fun hHeld => ?_)
    clear hK K
    try simp only [Act.put, List.setIfInBounds_toArray, List.set_cons_zero, List.set_cons_succ]
    refine wpAnyH_take (i := 6) (oi := { dst := some 5, op := Op.assign (Operand.tmp 19), type := 9, pos := "law.go:105", after := #[{ on := 2, ground := Ground.data }, { on := 4, ground := Ground.chain }, { on := 0, ground := Ground.phase }, { on := 1, ground := Ground.phase }, { on := 2, ground := Ground.phase }, { on := 3, ground := Ground.textOnly Departure.lateStores }, { on := 4, ground := Ground.textOnly Departure.lateStoresUnsure }, { on := 5, ground := Ground.textOnly Departure.lateStores }], guard := none }) (v := ?vv7) rfl (by kernel_rfl) (by kernel_rfl) (by kernel_rfl) (fun _ _ _ h => h) (Or.inl ⟨by rfl, ?hy7⟩) hHeld ?rest7
    case hy7 => (intro wS hSw; (try dsimp only at hSw); go_simp; try with_reducible rfl)
    simp only [Act.put, List.setIfInBounds_toArray, List.set_cons_zero, List.set_cons_succ]
    refine wpAnyH_take (i := 7) (oi := { dst := some 6, op := Op.assign (Operand.tmp 22), type := 9, pos := "law.go:105", after := #[{ on := 5, ground := Ground.data }, { on := 6, ground := Ground.chain }, { on := 0, ground := Ground.phase }, { on := 1, ground := Ground.phase }, { on := 2, ground := Ground.phase }, { on := 3, ground := Ground.phase }, { on := 4, ground := Ground.phase }, { on := 5, ground := Ground.phase }, { on := 6, ground := Ground.phase }], guard := none }) (v := ?vv8) rfl (by kernel_rfl) (by kernel_rfl) (by kernel_rfl) (fun _ _ _ h => h) (Or.inl ⟨by rfl, ?hy8⟩) hHeld ?rest8
    case hy8 => (intro wS hSw; (try dsimp only at hSw); go_simp; try with_reducible rfl)
    simp only [Act.put, List.setIfInBounds_toArray, List.set_cons_zero, List.set_cons_succ]
    refine wpAnyH_done (by kernel_rfl) ?_ _
    try go_wp2_with fail
    go_meet
    exact Lib.hid ⟨rfl, rfl, hcall.out⟩
  case rest =>
    obtain ⟨rfl, rfl, hbx⟩ := hcut.out
    have HTY := Lib.hid (HTX.out.on hbx)
    clear hcut hbx hcall KS HTX E2 E3 V2 V3
    obtain ⟨p0, p1, p2, p3, p4, q0, q1, q2, q3, q4⟩ := HTY.out.cells
    have Q2 := Lib.hid (show ∀ d os, Calls Tryd.prog 11 #[.agg #[.int .i64 o, .int .i64 a, .int .i64 b, .int .i64 c, .int .i32 m]] (Sort.grow (redrawn wc d) os) fun e w'' => e = .returned (.string (S s)) ∧ ∃ p : Regrown, w'' = Sort.grow (redrawn wc p.d) p.os from fun d os => Calls.regrown_of (T2.out _ (HL.out.on (HTY.out.on (below_regrown wc d os)).2.2)))
    have Q3 := Lib.hid (show ∀ d os, Calls Tryd.prog 11 #[.agg #[.int .i64 o', .int .i64 a', .int .i64 b', .int .i64 c', .int .i32 m']] (Sort.grow (redrawn wc d) os) fun e w'' => e = .returned (.string (S t)) ∧ ∃ p : Regrown, w'' = Sort.grow (redrawn wc p.d) p.os from fun d os => Calls.regrown_of (T3.out _ (HL.out.on (HTY.out.on (below_regrown wc d os)).2.2)))
    have r0 := cell_regrown p0
    have r1 := cell_regrown p1
    have r2 := cell_regrown p2
    have r3 := cell_regrown p3
    have r4 := cell_regrown p4
    have s0 := cell_regrown q0
    have s1 := cell_regrown q1
    have s2 := cell_regrown q2
    have s3 := cell_regrown q3
    have s4 := cell_regrown q4
    clear p0 p1 p2 p3 p4 q0 q1 q2 q3 q4 T2 T3
    by_cases he : o = o' ∧ a = a' ∧ b = b' ∧ c = c' ∧ m = m'
    · have hf := IF.out he
      obtain ⟨rfl, rfl, rfl, rfl, rfl⟩ := he
      obtain ⟨rfl, rfl⟩ := hf
      clear IF IT IE
      go_wp2_with fail
      refine wp_region_quiet_below (by kernel_rfl) (by kernel_rfl) ?_
      repeat (quiet_step (first | with_reducible exact Q2.out _ _ | with_reducible exact Q3.out _ _))
      refine wpQuiet_nil ?_
      intro _ hw'
      obtain ⟨⟨dq, osq⟩, hw''⟩ := hw'
      subst hw''
      go_wp2
      go_ret
      exact ⟨ret_true (by simp), (HTY.out.on (below_regrown wc dq osq)).2.2⟩
    · have n1 : ¬ (S u).toList = (S v).toList := by rw [S_toList, S_toList]; exact fun h => he (IE.out h)
      have n2 : ((S u).toList == (S v).toList) = false := by rw [beq_eq_false_iff_ne]; exact n1
      have m1 : ¬ (S s).toList = (S t).toList := by rw [S_toList, S_toList]; exact fun h => he (IT.out h)
      have m2 : ((S s).toList == (S t).toList) = false := by rw [beq_eq_false_iff_ne]; exact m1
      clear IF IT IE
      have hcase : (¬ o = o') ∨ (o = o' ∧ ¬ a = a') ∨ (o = o' ∧ a = a' ∧ ¬ b = b') ∨ (o = o' ∧ a = a' ∧ b = b' ∧ ¬ c = c') ∨ (o = o' ∧ a = a' ∧ b = b' ∧ c = c' ∧ ¬ m = m') := by omega
      clear he
      rcases hcase with h | ⟨rfl, h⟩ | ⟨rfl, rfl, h⟩ | ⟨rfl, rfl, rfl, h⟩ | ⟨rfl, rfl, rfl, rfl, h⟩
      all_goals
        (go_wp2_with fail
         refine wp_region_quiet_below (by kernel_rfl) (by kernel_rfl) ?_
         repeat (quiet_step (first | with_reducible exact Q2.out _ _ | with_reducible exact Q3.out _ _))
         refine wpQuiet_nil ?_
         intro _ hw'
         obtain ⟨⟨dq, osq⟩, hw''⟩ := hw'
         subst hw''
         go_wp2
         go_ret
         exact ⟨ret_true (by simp), (HTY.out.on (below_regrown wc dq osq)).2.2⟩)
theorem apart_law (o a b c m o' a' b' c' m' : Int) (w : World) (hm : -2147483648 ≤ m ∧ m ≤ 2147483647) (hm' : -2147483648 ≤ m' ∧ m' ≤ 2147483647) (hL : Laid w) :
    Calls Tryd.prog 7 #[.agg #[.int .i64 o, .int .i64 a, .int .i64 b, .int .i64 c, .int .i32 m], .agg #[.int .i64 o', .int .i64 a', .int .i64 b', .int .i64 c', .int .i32 m']] w fun e w' => e = .returned (.bool true) ∧ Below w.heap.size w w' := by
  have C2 := Lib.hid (fun (W : World) => lright_any o a b c m W)
  have C3 := Lib.hid (fun (W : World) => lright_any o' a' b' c' m' W)
  have C0 := Lib.hid (fun (W : World) (h : Laid W) => fit_any W h)
  have HT := Lib.hid (TW.start w o a b c m o' a' b' c' m')
  by_cases hR : Isa.Right o a b c
  · by_cases hR' : Isa.Right o' a' b' c'
    · exact apart_right o a b c m o' a' b' c' m' w hR hR' hm hm' hL
    · have HL := Lib.hid hL
      rw [decide_eq_true hR] at C2
      rw [decide_eq_false hR'] at C3
      clear hR hR' hm hm' hL
      go_enter Tryd.func7, Tryd.ntmps7
      go_wp2_with fail
      refine (C0.out _ (HL.out.on HT.out.2.2)).mono ?_
      rintro e w1 ⟨rfl, hb⟩
      have HT1 := Lib.hid (HT.out.on hb)
      clear hb HT C0
      obtain ⟨p0, p1, p2, p3, p4, q0, q1, q2, q3, q4⟩ := HT1.out.cells
      go_wp2_with fail
      refine (C2.out _).mono ?_
      rintro e w2 ⟨rfl, hb⟩
      have HT2 := Lib.hid (HT1.out.on hb)
      clear hb HT1 C2 p0 p1 p2 p3 p4 q0 q1 q2 q3 q4
      obtain ⟨p0, p1, p2, p3, p4, q0, q1, q2, q3, q4⟩ := HT2.out.cells
      go_wp2_with fail
      refine (C3.out _).mono ?_
      rintro e wx ⟨rfl, hb⟩
      have HTX := Lib.hid (HT2.out.on hb)
      clear hb HT2 C3 p0 p1 p2 p3 p4 q0 q1 q2 q3 q4
      go_wp2_with fail
      go_ret
      exact ⟨rfl, HTX.out.2.2⟩
  · have HL := Lib.hid hL
    rw [decide_eq_false hR] at C2
    clear hR hm hm' hL
    go_enter Tryd.func7, Tryd.ntmps7
    go_wp2_with fail
    refine (C0.out _ (HL.out.on HT.out.2.2)).mono ?_
    rintro e w1 ⟨rfl, hb⟩
    have HT1 := Lib.hid (HT.out.on hb)
    clear hb HT C0
    obtain ⟨p0, p1, p2, p3, p4, q0, q1, q2, q3, q4⟩ := HT1.out.cells
    go_wp2_with fail
    refine (C2.out _).mono ?_
    rintro e w2 ⟨rfl, hb⟩
    have HT2 := Lib.hid (HT1.out.on hb)
    clear hb HT1 C2 p0 p1 p2 p3 p4 q0 q1 q2 q3 q4
    go_wp2_with fail
    go_ret
    exact ⟨rfl, HT2.out.2.2⟩
end Go.Proofs.YtlohilpeidmemaaDoor
