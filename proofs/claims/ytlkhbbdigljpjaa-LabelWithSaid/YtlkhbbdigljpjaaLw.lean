import Derived.Test.YtlkhbbdigljpjaaUf
import Derived.Test.YtlkhbbdigljpjaaUg
namespace Go.Proofs.Ytlkhbbdigljpjaa
open Go.RowKit
set_option linter.unusedVariables false
set_option linter.unusedSimpArgs false

theorem rc_slice {m : Nat} {w : World} {a : Option Addr} {n c : Nat} {ps : List (Nat × Int)} (h : RC m w (.slice a n c) ps) : n = ps.length := by
  rcases h with ⟨h, rfl⟩ | ⟨b, off, cap, h, _⟩
  · simp at h; simp [h]
  · simp at h; exact h.2.1
theorem field1 (D : Int) (a : Option Addr) (n c : Nat) (w : World) : Sem.run Try.prog (Instr.field 24 (.agg #[.int .i64 D, .slice a n c]) 1) w = .ok (.slice a n c) w := by rfl
theorem put_again {D : Int} {ps : List (Nat × Int)} {c : Nat} {l : Int} (o : Lab.Ok D ps) (h1 : 1 ≤ c) (h2 : c < 4294967296) (h : Lab.at' D ps c = l) : Lab.put D ps c l = ps :=
  (pair_ext (Lab.put_ok o h1 h2) o rfl fun x => by rw [Lab.put_at]; split <;> simp_all).2
set_option maxRecDepth 100000 in
set_option maxHeartbeats 4000000 in
theorem with_law (S0 x1 y1 x2 y2 : Int) (v0 : Value) (w : World) (h0 : Ints w v0) :
    Calls Try.prog 10 #[.agg #[.int .i64 S0, v0], .agg #[.int .i64 x1, .int .i64 y1], .agg #[.int .i64 x2, .int .i64 y2]] w fun e w' => e = .returned (.bool true) ∧ Below w.heap.size w w' := by
  obtain ⟨va0, vn0, vc0, rfl⟩ : ∃ a n c, v0 = .slice a n c := by rcases h0 with ⟨a, c, rfl⟩ | ⟨b, off, cap, n, ls, rfl, _⟩ <;> exact ⟨_, _, _, rfl⟩
  have HI0 := Lib.hid h0
  have HFit := Lib.hid (fun (W : World) => fit_any W)
  obtain ⟨W0, e0⟩ : ∃ W0, W0 = (((w.alloc (Obj.cells #[.int .i64 S0, .slice va0 vn0 vc0] 29)).alloc (Obj.cells #[.int .i64 x1, .int .i64 y1] 36)).alloc (Obj.cells #[.int .i64 x2, .int .i64 y2] 36)) := ⟨_, rfl⟩
  have hB : Below w.heap.size w W0 := by rw [e0]; exact (((Below.refl _ _).alloc (Nat.le_refl _) _).alloc (by simp <;> omega) _).alloc (by simp <;> omega) _
  have hk0 : W0.heap[w.heap.size]? = some (Obj.cells #[.int .i64 S0, .slice va0 vn0 vc0] 29) := by
    rw [e0]
    rw [Below.heap_alloc _ _ _ (by simp <;> omega)]
    rw [Below.heap_alloc _ _ _ (by simp <;> omega)]
    have := heap_alloc_new w (Obj.cells #[.int .i64 S0, .slice va0 vn0 vc0] 29); simpa using this
  have hk1 : W0.heap[w.heap.size + 1]? = some (Obj.cells #[.int .i64 x1, .int .i64 y1] 36) := by
    rw [e0]
    rw [Below.heap_alloc _ _ _ (by simp <;> omega)]
    have := heap_alloc_new (w.alloc (Obj.cells #[.int .i64 S0, .slice va0 vn0 vc0] 29)) (Obj.cells #[.int .i64 x1, .int .i64 y1] 36); simpa using this
  have hk2 : W0.heap[w.heap.size + 2]? = some (Obj.cells #[.int .i64 x2, .int .i64 y2] 36) := by
    rw [e0]
    have := heap_alloc_new ((w.alloc (Obj.cells #[.int .i64 S0, .slice va0 vn0 vc0] 29)).alloc (Obj.cells #[.int .i64 x1, .int .i64 y1] 36)) (Obj.cells #[.int .i64 x2, .int .i64 y2] 36); simpa using this
  have HB := Lib.hid hB
  have HK := Lib.hid (show W0.heap[w.heap.size]? = some (Obj.cells #[.int .i64 S0, .slice va0 vn0 vc0] 29) ∧ W0.heap[w.heap.size + 1]? = some (Obj.cells #[.int .i64 x1, .int .i64 y1] 36) ∧ W0.heap[w.heap.size + 2]? = some (Obj.cells #[.int .i64 x2, .int .i64 y2] 36) from ⟨hk0, hk1, hk2⟩)
  clear h0 hB hk0 hk1 hk2
  go_enter Try.func10, Try.ntmps10
  go_wp2_with fail
  rw [← e0]
  clear e0
  refine (HFit.out _).mono ?_
  rintro e w1 ⟨rfl, hb1⟩
  have hS : ∀ wx, Below w1.heap.size w1 wx → Below w.heap.size w wx ∧ wx.cell? ⟨w.heap.size, 0, none⟩ = some (.int .i64 S0) ∧ wx.cell? ⟨w.heap.size, 1, none⟩ = some (.slice va0 vn0 vc0) ∧ wx.cell? ⟨w.heap.size + 1, 0, none⟩ = some (.int .i64 x1) ∧ wx.cell? ⟨w.heap.size + 1, 1, none⟩ = some (.int .i64 y1) ∧ wx.cell? ⟨w.heap.size + 2, 0, none⟩ = some (.int .i64 x2) ∧ wx.cell? ⟨w.heap.size + 2, 1, none⟩ = some (.int .i64 y2) := fun wx hx => by
    have h0 := hb1.trans (hx.mono hb1.size)
    have r0 : wx.heap[w.heap.size]? = some (Obj.cells #[.int .i64 S0, .slice va0 vn0 vc0] 29) := by rw [h0.block _ (Array.getElem?_eq_some_iff.1 HK.out.1).1]; exact HK.out.1
    have r1 : wx.heap[w.heap.size + 1]? = some (Obj.cells #[.int .i64 x1, .int .i64 y1] 36) := by rw [h0.block _ (Array.getElem?_eq_some_iff.1 HK.out.2.1).1]; exact HK.out.2.1
    have r2 : wx.heap[w.heap.size + 2]? = some (Obj.cells #[.int .i64 x2, .int .i64 y2] 36) := by rw [h0.block _ (Array.getElem?_eq_some_iff.1 HK.out.2.2).1]; exact HK.out.2.2
    exact ⟨HB.out.trans (h0.mono HB.out.size), by rw [cell_of_row _ _ 0 _ 29 (0, 0) r0]; rfl, by rw [cell_of_row _ _ 1 _ 29 (0, 0) r0]; rfl, by rw [cell_of_row _ _ 0 _ 36 (0, 0) r1]; rfl, by rw [cell_of_row _ _ 1 _ 36 (0, 0) r1]; rfl, by rw [cell_of_row _ _ 0 _ 36 (0, 0) r2]; rfl, by rw [cell_of_row _ _ 1 _ 36 (0, 0) r2]; rfl⟩
  have HS := Lib.hid hS
  clear hS hb1
  go_upto_region 3 with fail
  have hcall := Lib.hid ((Below.refl w1.heap.size w1).drew)
  have C0 := Lib.hid (fun (W : World) (h : Below w1.heap.size w1 W) => seed_form S0 (.slice va0 vn0 vc0) W (HI0.out.below (HS.out W h).1))
  have SS := Lib.hid (fun (wx : World) (h : Below w1.heap.size w1 wx) => ((HS.out wx h).2 : wx.cell? ⟨w.heap.size, 0, none⟩ = some (.int .i64 S0) ∧ wx.cell? ⟨w.heap.size, 1, none⟩ = some (.slice va0 vn0 vc0) ∧ wx.cell? ⟨w.heap.size + 1, 0, none⟩ = some (.int .i64 x1) ∧ wx.cell? ⟨w.heap.size + 1, 1, none⟩ = some (.int .i64 y1) ∧ wx.cell? ⟨w.heap.size + 2, 0, none⟩ = some (.int .i64 x2) ∧ wx.cell? ⟨w.heap.size + 2, 1, none⟩ = some (.int .i64 y2)))
  obtain ⟨q0a, q0b, _⟩ := SS.out w1 (Below.refl _ _)
  clear hcall
  go_wp2_with fail
  refine (C0.out w1 (Below.refl _ _)).mono ?_
  rintro e Y0 ⟨D0, a0, n0, c0, ps0, rfl, F0, hou, hbu⟩
  have hb2 := below_alloc1 Y0 (Obj.cells #[.int .i64 D0, .slice a0 n0 c0] 24)
  have hk4 := heap_alloc_new Y0 (Obj.cells #[.int .i64 D0, .slice a0 n0 c0] 24)
  obtain ⟨s0, s1, s2, s3, _⟩ := fresh2 Y0 24 (.int .i64 0) (.slice none 0 0) (.int .i64 D0) (.slice a0 n0 c0)
  have hru := rc_of_owns hou (by have := F0.2.2.2.2; omega)
  go_upto_region 4 with fail
  obtain ⟨X, e6⟩ : ∃ X6, X6 = Y0.alloc (Obj.cells #[.int .i64 D0, .slice a0 n0 c0] 24) := ⟨_, rfl⟩
  rw [← e6] at hb2 hk4 ⊢
  clear e6 s0 s1 s2 s3
  obtain ⟨A0, eA2⟩ : ∃ A2, Y0.heap.size = A2 := ⟨_, rfl⟩
  rw [eA2] at hk4 ⊢
  clear eA2
  have hyx : Below w1.heap.size w1 X := hbu.trans (hb2.mono hbu.size)
  have U2 : Lbl X A0 D0 (.slice a0 n0 c0) ps0 := ⟨hk4, (hru.below hb2).mono hb2.size⟩
  have O0 := Lib.hid F0.1
  have l0 := F0.2.2.2.2
  have HX := Lib.hid ((HS.out w1 (Below.refl _ _)).1.trans (hyx.mono (HS.out w1 (Below.refl _ _)).1.size))
  obtain ⟨_, _, q1a, q1b, _⟩ := SS.out X hyx
  have SX := Lib.hid (fun (wx : World) (h : Below X.heap.size X wx) => (⟨(SS.out wx (hyx.trans (h.mono hyx.size))).2.2.2.2.1, (SS.out wx (hyx.trans (h.mono hyx.size))).2.2.2.2.2⟩ : wx.cell? ⟨w.heap.size + 2, 0, none⟩ = some (.int .i64 x2) ∧ wx.cell? ⟨w.heap.size + 2, 1, none⟩ = some (.int .i64 y2)))
  have L0 := U2
  clear HS SS C0 HI0 HK HB HFit hou hbu hb2 hk4 hyx U2 hru F0 q0a q0b
  go_region
  obtain ⟨c, hc1, hc2, hc⟩ := cat_of x1
  obtain ⟨d, hd1, hd2, hd⟩ := cat_of y1
  simp only [hc, hd]
  clear hc hd q1a q1b
  obtain ⟨Y1, eY⟩ : ∃ Y, Y = X.drew := ⟨_, rfl⟩
  rw [← eY]
  have hxy : Below X.heap.size X Y1 := by rw [eY]; exact (Below.refl _ _).drew
  clear eY
  obtain ⟨q2a, q2b⟩ := SX.out Y1 hxy
  go_upto_region 5 with fail
  go_region
  obtain ⟨l1, el1⟩ : ∃ l, (wrap64 (x2.tmod 5 + 5)).tmod 5 = l := ⟨_, rfl⟩
  obtain ⟨l2, el2⟩ : ∃ l, (wrap64 (y2.tmod 5 + 5)).tmod 5 = l := ⟨_, rfl⟩
  simp only [el1, el2]
  clear el1 el2 q2a q2b SX
  obtain ⟨Y, eY⟩ : ∃ Y, Y = Y1.drew := ⟨_, rfl⟩
  rw [← eY]
  replace hxy : Below X.heap.size X Y := by rw [eY]; exact hxy.drew
  have HY := Lib.hid (HX.out.trans (hxy.mono HX.out.size))
  clear eY
  obtain ⟨Z1, eZ1⟩ : ∃ X, Lab.put D0 ps0 c l1 = X := ⟨_, rfl⟩
  obtain ⟨Z2, eZ2⟩ : ∃ X, Lab.put D0 Z1 d l2 = X := ⟨_, rfl⟩
  obtain ⟨Z3, eZ3⟩ : ∃ X, Lab.put D0 Z2 d D0 = X := ⟨_, rfl⟩
  have lZ1 : Z1.length ≤ 13 := by rw [← eZ1]; have := Lab.put_len D0 ps0 c l1; omega
  have lZ2 : Z2.length ≤ 14 := by rw [← eZ2]; have := Lab.put_len D0 Z1 d l2; omega
  have lZ3 : Z3.length ≤ 15 := by rw [← eZ3]; have := Lab.put_len D0 Z2 d D0; omega
  have O1 := Lib.hid (show Lab.Ok D0 Z1 by rw [← eZ1]; exact Lab.put_ok O0.out hc1 (by omega))
  have O2 := Lib.hid (show Lab.Ok D0 Z2 by rw [← eZ2]; exact Lab.put_ok O1.out hd1 (by omega))
  have hAd : Lab.at' D0 Z2 d = l2 := by rw [← eZ2, Lab.put_at, if_pos rfl]
  have HAc := Lib.hid (show ¬ c = d → Lab.at' D0 Z2 c = l1 from fun h => by rw [← eZ2, Lab.put_at, if_neg h, ← eZ1, Lab.put_at, if_pos rfl])
  have HAe := Lib.hid (show ∀ k, ¬ k = c → ¬ k = d → Lab.at' D0 Z2 k = Lab.at' D0 ps0 k from fun k h1 h2 => by rw [← eZ2, Lab.put_at, if_neg h2, ← eZ1, Lab.put_at, if_neg h1])
  have HLen := Lib.hid (show Z3.length + (if l2 = D0 then 0 else 1) = Z2.length by have := Lab.put_default_len (c := d) O2.out; rw [hAd, eZ3] at this; exact this)
  have P1 := Lib.hid (fun (W : World) (v0 : Value) (r0 : RC W.heap.size W v0 ps0) => (by rw [← eZ1]; exact with_c c l1 O0.out r0 (by omega) : Calls Try.prog 25 #[.agg #[.int .i64 D0, v0], .int .u32 c, .int .i64 l1] W (LG W D0 Z1)))
  have P2 := Lib.hid (fun (W : World) (v0 : Value) (r0 : RC W.heap.size W v0 Z1) => (by rw [← eZ2]; exact with_c d l2 O1.out r0 (by omega) : Calls Try.prog 25 #[.agg #[.int .i64 D0, v0], .int .u32 d, .int .i64 l2] W (LG W D0 Z2)))
  have P3 := Lib.hid (fun (W : World) (v0 : Value) (r0 : RC W.heap.size W v0 Z2) => (by rw [← eZ3]; exact with_c d D0 O2.out r0 (by omega) : Calls Try.prog 25 #[.agg #[.int .i64 D0, v0], .int .u32 d, .int .i64 D0] W (LG W D0 Z3)))
  have eAg := put_again (l := l2) O2.out hd1 (by omega) hAd
  have P4 := Lib.hid (fun (W : World) (v0 : Value) (r0 : RC W.heap.size W v0 Z2) => (by have h := with_c (W := W) (v1 := v0) d l2 O2.out r0 (by omega); rwa [eAg] at h : Calls Try.prog 25 #[.agg #[.int .i64 D0, v0], .int .u32 d, .int .i64 l2] W (LG W D0 Z2)))
  have PAd := Lib.hid (fun (W : World) (v0 : Value) (r0 : RC W.heap.size W v0 Z2) => (at_c O2.out r0 hAd : Calls Try.prog 28 #[.agg #[.int .i64 D0, v0], .int .u32 d] W fun e w' => e = .returned (.int .i64 l2) ∧ Below W.heap.size W w'))
  have HL := Lib.hid (L0.below hxy)
  obtain ⟨b0, b1⟩ := (L0.below hxy).cells
  clear eAg hAd eZ1 eZ2 eZ3 L0 hxy HX
  go_upto_region 6 with fail
  go_wp2_with fail
  refine (P1.out _ _ HL.out.rc).mono ?_
  rintro e Y2 ⟨a5, n5, c5, rfl, ho, hb⟩
  have R5 := rc_of_owns ho (by omega)
  clear b0 b1 ho
  go_wp2_with fail
  refine (P2.out _ _ R5).mono ?_
  rintro e Y3 ⟨a1, n1, c1, rfl, hou, hb3⟩
  have hbu := hb.trans (hb3.mono hb.size)
  clear hb hb3 R5 P1 P2
  have hb2 := below_alloc1 Y3 (Obj.cells #[.int .i64 D0, .slice a1 n1 c1] 24)
  have hk4 := heap_alloc_new Y3 (Obj.cells #[.int .i64 D0, .slice a1 n1 c1] 24)
  obtain ⟨s0, s1, s2, s3, _⟩ := fresh2 Y3 24 (.int .i64 0) (.slice none 0 0) (.int .i64 D0) (.slice a1 n1 c1)
  have hru := rc_of_owns hou (by omega)
  go_upto_region 7 with fail
  obtain ⟨X6, e6⟩ : ∃ X6, X6 = Y3.alloc (Obj.cells #[.int .i64 D0, .slice a1 n1 c1] 24) := ⟨_, rfl⟩
  rw [← e6] at hb2 hk4 ⊢
  clear e6 s0 s1 s2 s3
  obtain ⟨A1, eA2⟩ : ∃ A2, Y3.heap.size = A2 := ⟨_, rfl⟩
  rw [eA2] at hk4 ⊢
  clear eA2
  have hyx : Below Y.heap.size Y X6 := hbu.trans (hb2.mono hbu.size)
  have U2 : Lbl X6 A1 D0 (.slice a1 n1 c1) Z2 := ⟨hk4, (hru.below hb2).mono hb2.size⟩
  have EN1 := Lib.hid (rc_slice U2.rc)
  have L0 := HL.out
  have hxw := HY.out.trans (hyx.mono HY.out.size)
  have KS := Lib.hid (fun (wx : World) (h : Below X6.heap.size X6 wx) => (⟨(L0.below hyx).below h, (U2).below h, (hxw).trans (h.mono (hxw).size)⟩ : Lbl wx A0 D0 (.slice a0 n0 c0) ps0 ∧ Lbl wx A1 D0 (.slice a1 n1 c1) Z2 ∧ Below w.heap.size w wx))
  have SC := Lib.hid (fun (wx : World) (h : Below X6.heap.size X6 wx) => (⟨(KS.out wx h).1.cells.1, (KS.out wx h).1.cells.2, (KS.out wx h).2.1.cells.1, (KS.out wx h).2.1.cells.2⟩ : wx.cell? ⟨A0, 0, none⟩ = some (.int .i64 D0) ∧ wx.cell? ⟨A0, 1, none⟩ = some ((.slice a0 n0 c0)) ∧ wx.cell? ⟨A1, 0, none⟩ = some (.int .i64 D0) ∧ wx.cell? ⟨A1, 1, none⟩ = some ((.slice a1 n1 c1))))
  clear hru hou hbu hb2 hk4 hyx U2 L0 hxw HL HY
  go_cut [46, 47, 48, 49, 50, 51, 52, 53, 54, 55, 56, 57, 58, 59, 60, 61, 62] (fun s46 s47 s48 s49 s50 s51 s52 s53 s54 s55 s56 s57 s58 s59 s60 s61 s62 wx => s62 = .bool false ∧ Hid (Below X6.heap.size X6 wx))
  case first =>
    have hcall := Lib.hid (Below.refl X6.heap.size X6)
    obtain ⟨q0a, q0b, q1a, q1b⟩ := SC.out _ hcall.out
    by_cases hcd : c = d
    · subst hcd
      go_wp2_with fail
      refine (PAd.out _ _ (KS.out _ hcall.out).2.1.rc).mono ?_
      rintro e wq ⟨rfl, hb'⟩
      replace hcall := Lib.hid (hcall.out.trans (hb'.mono hcall.out.size))
      clear hb' q0a q0b q1a q1b
      obtain ⟨q0a, q0b, q1a, q1b⟩ := SC.out _ hcall.out
      go_wp2_with fail
      go_meet
      exact ⟨by first | rfl | simp, Lib.hid hcall.out⟩
    · have PAc := Lib.hid (fun (W : World) (v0 : Value) (r0 : RC W.heap.size W v0 Z2) => (at_c O2.out r0 (HAc.out hcd) : Calls Try.prog 28 #[.agg #[.int .i64 D0, v0], .int .u32 c] W fun e w' => e = .returned (.int .i64 l1) ∧ Below W.heap.size W w'))
      have hcd2 : ¬ (c : Int) = (d : Int) := by omega
      go_wp2_with fail
      refine (PAd.out _ _ (KS.out _ hcall.out).2.1.rc).mono ?_
      rintro e wq ⟨rfl, hb'⟩
      replace hcall := Lib.hid (hcall.out.trans (hb'.mono hcall.out.size))
      clear hb' q0a q0b q1a q1b
      obtain ⟨q0a, q0b, q1a, q1b⟩ := SC.out _ hcall.out
      go_wp2_with fail
      refine (PAc.out _ _ (KS.out _ hcall.out).2.1.rc).mono ?_
      rintro e wq ⟨rfl, hb'⟩
      replace hcall := Lib.hid (hcall.out.trans (hb'.mono hcall.out.size))
      clear hb' q0a q0b q1a q1b
      obtain ⟨q0a, q0b, q1a, q1b⟩ := SC.out _ hcall.out
      go_wp2_with fail
      go_meet
      exact ⟨by first | rfl | simp, Lib.hid hcall.out⟩
  case rest =>
    obtain ⟨rfl, HF3⟩ := hcut
    obtain ⟨X7, rfl⟩ : ∃ X7, X7 = wc := ⟨_, rfl⟩
    have H7 := Lib.hid HF3.out
    clear HF3 HAc PAd
    go_wp2_with fail
    go_loopg [13] 44 (fun g i wr => ∃ k : Nat, 1 ≤ k ∧ k ≤ 45 ∧ Hid (g = 45 - k) ∧ i = .int .u32 k ∧ Hid (Below X6.heap.size X6 wr))
    case atStart => exact ⟨1, by omega, by omega, Lib.hid (by omega), rfl, Lib.hid H7.out⟩
    case round =>
      obtain ⟨k, hk1, hk, hg, rfl, hr⟩ := hrel
      by_cases hlt : k < 45
      · have hcall := Lib.hid (hr.out.drew)
        clear H7
        go_upto_region 12 with fail
        have hcase : k = c ∨ (¬ k = c ∧ k = d) ∨ (¬ k = c ∧ ¬ k = d) := by omega
        have st0 := Lib.hid (show 0 = 0 from rfl)
        rcases hcase with rfl | ⟨hkn, rfl⟩ | ⟨hkn, hkd⟩
        · refine wp_region_held_drew (S := fun w' => w'.cell? ⟨A0, 0, none⟩ = some (.int .i64 D0) ∧ w'.cell? ⟨A0, 1, none⟩ = some ((.slice a0 n0 c0)) ∧ w'.cell? ⟨A1, 0, none⟩ = some (.int .i64 D0) ∧ w'.cell? ⟨A1, 1, none⟩ = some ((.slice a1 n1 c1))) (by kernel_rfl) (SC.out _ hcall.out) (fun hHeld => ?_)
          refine wpAnyH_take (i := 0) (oi := { dst := some 67, op := Op.move (Operand.tmp 13), type := 37, pos := "law.go:142", after := #[], guard := none }) (v := ?vv1) rfl (by kernel_rfl) (by kernel_rfl) (by kernel_rfl) (fun _ _ _ h => h) (Or.inl ⟨by rfl, ?hy1⟩) hHeld ?rest1
          case hy1 => (intro wS hSw; (try dsimp only at hSw); go_simp; try with_reducible rfl)
          simp only [Act.put, List.setIfInBounds_toArray, List.set_cons_zero, List.set_cons_succ]
          refine wpAnyH_take (i := 1) (oi := { dst := some 68, op := Op.move (Operand.tmp 8), type := 37, pos := "law.go:142", after := #[], guard := none }) (v := ?vv2) rfl (by kernel_rfl) (by kernel_rfl) (by kernel_rfl) (fun _ _ _ h => h) (Or.inl ⟨by rfl, ?hy2⟩) hHeld ?rest2
          case hy2 => (intro wS hSw; (try dsimp only at hSw); go_simp; try with_reducible rfl)
          simp only [Act.put, List.setIfInBounds_toArray, List.set_cons_zero, List.set_cons_succ]
          refine wpAnyH_take (i := 2) (oi := { dst := some 69, op := Op.binOp BinOp.neq 37 (Operand.tmp 67) (Operand.tmp 68) 37, type := 4, pos := "law.go:142", after := #[{ on := 0, ground := Ground.data }, { on := 1, ground := Ground.data }], guard := none }) (v := ?vv3) rfl (by kernel_rfl) (by kernel_rfl) (by kernel_rfl) (fun _ _ _ h => h) (Or.inl ⟨by rfl, ?hy3⟩) hHeld ?rest3
          case hy3 => (intro wS hSw; (try dsimp only at hSw); go_simp; try with_reducible rfl)
          simp only [Act.put, List.setIfInBounds_toArray, List.set_cons_zero, List.set_cons_succ]
          refine wpAnyH_take (i := 3) (oi := { dst := some 70, op := Op.move (Operand.tmp 69), type := 4, pos := "law.go:142", after := #[{ on := 2, ground := Ground.data }], guard := none }) (v := ?vv4) rfl (by kernel_rfl) (by kernel_rfl) (by kernel_rfl) (fun _ _ _ h => h) (Or.inl ⟨by rfl, ?hy4⟩) hHeld ?rest4
          case hy4 => (intro wS hSw; (try dsimp only at hSw); go_simp; try with_reducible rfl)
          simp only [Act.put, List.setIfInBounds_toArray, List.set_cons_zero, List.set_cons_succ]
          refine wpAnyH_take (i := 4) (oi := { dst := some 71, op := Op.move (Operand.tmp 13), type := 37, pos := "law.go:142", after := #[{ on := 3, ground := Ground.guard }], guard := some (3, true) }) (v := undef) rfl (by kernel_rfl) (by kernel_rfl) (by kernel_rfl) (fun _ _ _ h => h) (Or.inr ⟨by rfl, rfl⟩) hHeld ?_
          simp only [Act.put, List.setIfInBounds_toArray, List.set_cons_zero, List.set_cons_succ]
          refine wpAnyH_take (i := 5) (oi := { dst := some 72, op := Op.move (Operand.tmp 9), type := 37, pos := "law.go:142", after := #[{ on := 3, ground := Ground.guard }], guard := some (3, true) }) (v := undef) rfl (by kernel_rfl) (by kernel_rfl) (by kernel_rfl) (fun _ _ _ h => h) (Or.inr ⟨by rfl, rfl⟩) hHeld ?_
          simp only [Act.put, List.setIfInBounds_toArray, List.set_cons_zero, List.set_cons_succ]
          refine wpAnyH_take (i := 6) (oi := { dst := some 73, op := Op.binOp BinOp.neq 37 (Operand.tmp 71) (Operand.tmp 72) 37, type := 4, pos := "law.go:142", after := #[{ on := 4, ground := Ground.data }, { on := 5, ground := Ground.data }, { on := 3, ground := Ground.guard }], guard := some (3, true) }) (v := undef) rfl (by kernel_rfl) (by kernel_rfl) (by kernel_rfl) (fun _ _ _ h => h) (Or.inr ⟨by rfl, rfl⟩) hHeld ?_
          simp only [Act.put, List.setIfInBounds_toArray, List.set_cons_zero, List.set_cons_succ]
          refine wpAnyH_take (i := 7) (oi := { dst := some 74, op := Op.pick (Operand.tmp 70) (Operand.tmp 73) (Operand.const (Value.bool false)), type := 4, pos := "law.go:142", after := #[{ on := 3, ground := Ground.data }, { on := 6, ground := Ground.data }], guard := none }) (v := ?vv5) rfl (by kernel_rfl) (by kernel_rfl) (by kernel_rfl) (fun _ _ _ h => h) (Or.inl ⟨by rfl, ?hy5⟩) hHeld ?rest5
          case hy5 => (intro wS hSw; (try dsimp only at hSw); go_simp; try with_reducible rfl)
          simp only [Act.put, List.setIfInBounds_toArray, List.set_cons_zero, List.set_cons_succ]
          refine wpAnyH_take (i := 8) (oi := { dst := some 75, op := Op.move (Operand.tmp 74), type := 4, pos := "law.go:142", after := #[{ on := 7, ground := Ground.data }, { on := 3, ground := Ground.chain }], guard := none }) (v := ?vv6) rfl (by kernel_rfl) (by kernel_rfl) (by kernel_rfl) (fun _ _ _ h => h) (Or.inl ⟨by rfl, ?hy6⟩) hHeld ?rest6
          case hy6 => (intro wS hSw; (try dsimp only at hSw); go_simp; try with_reducible rfl)
          simp only [Act.put, List.setIfInBounds_toArray, List.set_cons_zero, List.set_cons_succ]
          refine wpAnyH_take (i := 9) (oi := { dst := some 76, op := Op.load 24 (Operand.tmp 12), type := 24, pos := "law.go:142", after := #[{ on := 8, ground := Ground.guard }], guard := some (8, true) }) (v := undef) rfl (by kernel_rfl) (by kernel_rfl) (by kernel_rfl) (fun _ _ _ h => h) (Or.inr ⟨by rfl, rfl⟩) hHeld ?_
          simp only [Act.put, List.setIfInBounds_toArray, List.set_cons_zero, List.set_cons_succ]
          refine wpAnyH_take (i := 10) (oi := { dst := some 77, op := Op.move (Operand.tmp 13), type := 37, pos := "law.go:142", after := #[{ on := 8, ground := Ground.guard }], guard := some (8, true) }) (v := undef) rfl (by kernel_rfl) (by kernel_rfl) (by kernel_rfl) (fun _ _ _ h => h) (Or.inr ⟨by rfl, rfl⟩) hHeld ?_
          simp only [Act.put, List.setIfInBounds_toArray, List.set_cons_zero, List.set_cons_succ]
          refine wpAnyH_take (i := 11) (oi := { dst := some 78, op := Op.call { callee := Callee.value (Operand.func 28), args := #[Operand.tmp 76, Operand.tmp 77], argTypes := #[24, 37] }, type := 3, pos := "law.go:142", after := #[{ on := 9, ground := Ground.data }, { on := 10, ground := Ground.data }, { on := 8, ground := Ground.chain }, { on := 8, ground := Ground.guard }], guard := some (8, true) }) (v := undef) rfl (by kernel_rfl) (by kernel_rfl) (by kernel_rfl) (fun _ _ _ h => h) (Or.inr ⟨by rfl, rfl⟩) hHeld ?_
          simp only [Act.put, List.setIfInBounds_toArray, List.set_cons_zero, List.set_cons_succ]
          refine wpAnyH_take (i := 12) (oi := { dst := some 79, op := Op.load 24 (Operand.tmp 7), type := 24, pos := "law.go:142", after := #[{ on := 8, ground := Ground.guard }], guard := some (8, true) }) (v := undef) rfl (by kernel_rfl) (by kernel_rfl) (by kernel_rfl) (fun _ _ _ h => h) (Or.inr ⟨by rfl, rfl⟩) hHeld ?_
          simp only [Act.put, List.setIfInBounds_toArray, List.set_cons_zero, List.set_cons_succ]
          refine wpAnyH_take (i := 13) (oi := { dst := some 80, op := Op.move (Operand.tmp 13), type := 37, pos := "law.go:142", after := #[{ on := 8, ground := Ground.guard }], guard := some (8, true) }) (v := undef) rfl (by kernel_rfl) (by kernel_rfl) (by kernel_rfl) (fun _ _ _ h => h) (Or.inr ⟨by rfl, rfl⟩) hHeld ?_
          simp only [Act.put, List.setIfInBounds_toArray, List.set_cons_zero, List.set_cons_succ]
          refine wpAnyH_take (i := 14) (oi := { dst := some 81, op := Op.call { callee := Callee.value (Operand.func 28), args := #[Operand.tmp 79, Operand.tmp 80], argTypes := #[24, 37] }, type := 3, pos := "law.go:142", after := #[{ on := 12, ground := Ground.data }, { on := 13, ground := Ground.data }, { on := 11, ground := Ground.chain }, { on := 8, ground := Ground.guard }], guard := some (8, true) }) (v := undef) rfl (by kernel_rfl) (by kernel_rfl) (by kernel_rfl) (fun _ _ _ h => h) (Or.inr ⟨by rfl, rfl⟩) hHeld ?_
          simp only [Act.put, List.setIfInBounds_toArray, List.set_cons_zero, List.set_cons_succ]
          refine wpAnyH_take (i := 15) (oi := { dst := some 82, op := Op.binOp BinOp.neq 3 (Operand.tmp 78) (Operand.tmp 81) 3, type := 4, pos := "law.go:142", after := #[{ on := 11, ground := Ground.data }, { on := 14, ground := Ground.data }, { on := 8, ground := Ground.guard }], guard := some (8, true) }) (v := undef) rfl (by kernel_rfl) (by kernel_rfl) (by kernel_rfl) (fun _ _ _ h => h) (Or.inr ⟨by rfl, rfl⟩) hHeld ?_
          simp only [Act.put, List.setIfInBounds_toArray, List.set_cons_zero, List.set_cons_succ]
          refine wpAnyH_take (i := 16) (oi := { dst := some 83, op := Op.pick (Operand.tmp 75) (Operand.tmp 82) (Operand.const (Value.bool false)), type := 4, pos := "law.go:142", after := #[{ on := 8, ground := Ground.data }, { on := 15, ground := Ground.data }], guard := none }) (v := ?vv7) rfl (by kernel_rfl) (by kernel_rfl) (by kernel_rfl) (fun _ _ _ h => h) (Or.inl ⟨by rfl, ?hy7⟩) hHeld ?rest7
          case hy7 => (intro wS hSw; (try dsimp only at hSw); go_simp; try with_reducible rfl)
          simp only [Act.put, List.setIfInBounds_toArray, List.set_cons_zero, List.set_cons_succ]
          refine wpAnyH_done (by kernel_rfl) ?_ _
          all_goals
            go_wp2_with fail
            go_roundg (45 - (k + 1))
            case measure => rw [hg.out]; omega
            case rel => exact ⟨k + 1, by omega, by omega, Lib.hid rfl, by go_num, Lib.hid hcall.out⟩
        · have hkc2 : ¬ (k : Int) = (c : Int) := by omega
          have hka : ((k : Int) == (c : Int)) = false := by simp [hkc2]
          have hkb : ((k : Int) != (c : Int)) = true := by simp [hkc2]
          have hkc : decide ((k : Int) = (c : Int)) = false := by simp [hkc2]
          refine wp_region_held_drew (S := fun w' => w'.cell? ⟨A0, 0, none⟩ = some (.int .i64 D0) ∧ w'.cell? ⟨A0, 1, none⟩ = some ((.slice a0 n0 c0)) ∧ w'.cell? ⟨A1, 0, none⟩ = some (.int .i64 D0) ∧ w'.cell? ⟨A1, 1, none⟩ = some ((.slice a1 n1 c1))) (by kernel_rfl) (SC.out _ hcall.out) (fun hHeld => ?_)
          refine wpAnyH_take (i := 0) (oi := { dst := some 67, op := Op.move (Operand.tmp 13), type := 37, pos := "law.go:142", after := #[], guard := none }) (v := ?vv8) rfl (by kernel_rfl) (by kernel_rfl) (by kernel_rfl) (fun _ _ _ h => h) (Or.inl ⟨by rfl, ?hy8⟩) hHeld ?rest8
          case hy8 => (intro wS hSw; (try dsimp only at hSw); go_simp; (try simp only [hka, hkb, hkc, Bool.not_false]); try with_reducible rfl)
          simp only [Act.put, List.setIfInBounds_toArray, List.set_cons_zero, List.set_cons_succ]
          refine wpAnyH_take (i := 1) (oi := { dst := some 68, op := Op.move (Operand.tmp 8), type := 37, pos := "law.go:142", after := #[], guard := none }) (v := ?vv9) rfl (by kernel_rfl) (by kernel_rfl) (by kernel_rfl) (fun _ _ _ h => h) (Or.inl ⟨by rfl, ?hy9⟩) hHeld ?rest9
          case hy9 => (intro wS hSw; (try dsimp only at hSw); go_simp; (try simp only [hka, hkb, hkc, Bool.not_false]); try with_reducible rfl)
          simp only [Act.put, List.setIfInBounds_toArray, List.set_cons_zero, List.set_cons_succ]
          refine wpAnyH_take (i := 2) (oi := { dst := some 69, op := Op.binOp BinOp.neq 37 (Operand.tmp 67) (Operand.tmp 68) 37, type := 4, pos := "law.go:142", after := #[{ on := 0, ground := Ground.data }, { on := 1, ground := Ground.data }], guard := none }) (v := ?vv10) rfl (by kernel_rfl) (by kernel_rfl) (by kernel_rfl) (fun _ _ _ h => h) (Or.inl ⟨by rfl, ?hy10⟩) hHeld ?rest10
          case hy10 => (intro wS hSw; (try dsimp only at hSw); go_simp; (try simp only [hka, hkb, hkc, Bool.not_false]); try with_reducible rfl)
          simp only [Act.put, List.setIfInBounds_toArray, List.set_cons_zero, List.set_cons_succ]
          refine wpAnyH_take (i := 3) (oi := { dst := some 70, op := Op.move (Operand.tmp 69), type := 4, pos := "law.go:142", after := #[{ on := 2, ground := Ground.data }], guard := none }) (v := ?vv11) rfl (by kernel_rfl) (by kernel_rfl) (by kernel_rfl) (fun _ _ _ h => h) (Or.inl ⟨by rfl, ?hy11⟩) hHeld ?rest11
          case hy11 => (intro wS hSw; (try dsimp only at hSw); go_simp; (try simp only [hka, hkb, hkc, Bool.not_false]); try with_reducible rfl)
          simp only [Act.put, List.setIfInBounds_toArray, List.set_cons_zero, List.set_cons_succ]
          refine wpAnyH_take (i := 4) (oi := { dst := some 71, op := Op.move (Operand.tmp 13), type := 37, pos := "law.go:142", after := #[{ on := 3, ground := Ground.guard }], guard := some (3, true) }) (v := ?vv12) rfl (by kernel_rfl) (by kernel_rfl) (by kernel_rfl) (fun _ _ _ h => h) (Or.inl ⟨by rfl, ?hy12⟩) hHeld ?rest12
          case hy12 => (intro wS hSw; (try dsimp only at hSw); go_simp; (try simp only [hka, hkb, hkc, Bool.not_false]); try with_reducible rfl)
          simp only [Act.put, List.setIfInBounds_toArray, List.set_cons_zero, List.set_cons_succ]
          refine wpAnyH_take (i := 5) (oi := { dst := some 72, op := Op.move (Operand.tmp 9), type := 37, pos := "law.go:142", after := #[{ on := 3, ground := Ground.guard }], guard := some (3, true) }) (v := ?vv13) rfl (by kernel_rfl) (by kernel_rfl) (by kernel_rfl) (fun _ _ _ h => h) (Or.inl ⟨by rfl, ?hy13⟩) hHeld ?rest13
          case hy13 => (intro wS hSw; (try dsimp only at hSw); go_simp; (try simp only [hka, hkb, hkc, Bool.not_false]); try with_reducible rfl)
          simp only [Act.put, List.setIfInBounds_toArray, List.set_cons_zero, List.set_cons_succ]
          refine wpAnyH_take (i := 6) (oi := { dst := some 73, op := Op.binOp BinOp.neq 37 (Operand.tmp 71) (Operand.tmp 72) 37, type := 4, pos := "law.go:142", after := #[{ on := 4, ground := Ground.data }, { on := 5, ground := Ground.data }, { on := 3, ground := Ground.guard }], guard := some (3, true) }) (v := ?vv14) rfl (by kernel_rfl) (by kernel_rfl) (by kernel_rfl) (fun _ _ _ h => h) (Or.inl ⟨by rfl, ?hy14⟩) hHeld ?rest14
          case hy14 => (intro wS hSw; (try dsimp only at hSw); go_simp; (try simp only [hka, hkb, hkc, Bool.not_false]); try with_reducible rfl)
          simp only [Act.put, List.setIfInBounds_toArray, List.set_cons_zero, List.set_cons_succ]
          refine wpAnyH_take (i := 7) (oi := { dst := some 74, op := Op.pick (Operand.tmp 70) (Operand.tmp 73) (Operand.const (Value.bool false)), type := 4, pos := "law.go:142", after := #[{ on := 3, ground := Ground.data }, { on := 6, ground := Ground.data }], guard := none }) (v := ?vv15) rfl (by kernel_rfl) (by kernel_rfl) (by kernel_rfl) (fun _ _ _ h => h) (Or.inl ⟨by rfl, ?hy15⟩) hHeld ?rest15
          case hy15 => (intro wS hSw; (try dsimp only at hSw); go_simp; (try simp only [hka, hkb, hkc, Bool.not_false]); try with_reducible rfl)
          simp only [Act.put, List.setIfInBounds_toArray, List.set_cons_zero, List.set_cons_succ]
          refine wpAnyH_take (i := 8) (oi := { dst := some 75, op := Op.move (Operand.tmp 74), type := 4, pos := "law.go:142", after := #[{ on := 7, ground := Ground.data }, { on := 3, ground := Ground.chain }], guard := none }) (v := ?vv16) rfl (by kernel_rfl) (by kernel_rfl) (by kernel_rfl) (fun _ _ _ h => h) (Or.inl ⟨by rfl, ?hy16⟩) hHeld ?rest16
          case hy16 => (intro wS hSw; (try dsimp only at hSw); go_simp; (try simp only [hka, hkb, hkc, Bool.not_false]); try with_reducible rfl)
          simp only [Act.put, List.setIfInBounds_toArray, List.set_cons_zero, List.set_cons_succ]
          refine wpAnyH_take (i := 9) (oi := { dst := some 76, op := Op.load 24 (Operand.tmp 12), type := 24, pos := "law.go:142", after := #[{ on := 8, ground := Ground.guard }], guard := some (8, true) }) (v := undef) rfl (by kernel_rfl) (by kernel_rfl) (by kernel_rfl) (fun _ _ _ h => h) (Or.inr ⟨by rfl, rfl⟩) hHeld ?_
          simp only [Act.put, List.setIfInBounds_toArray, List.set_cons_zero, List.set_cons_succ]
          refine wpAnyH_take (i := 10) (oi := { dst := some 77, op := Op.move (Operand.tmp 13), type := 37, pos := "law.go:142", after := #[{ on := 8, ground := Ground.guard }], guard := some (8, true) }) (v := undef) rfl (by kernel_rfl) (by kernel_rfl) (by kernel_rfl) (fun _ _ _ h => h) (Or.inr ⟨by rfl, rfl⟩) hHeld ?_
          simp only [Act.put, List.setIfInBounds_toArray, List.set_cons_zero, List.set_cons_succ]
          refine wpAnyH_take (i := 11) (oi := { dst := some 78, op := Op.call { callee := Callee.value (Operand.func 28), args := #[Operand.tmp 76, Operand.tmp 77], argTypes := #[24, 37] }, type := 3, pos := "law.go:142", after := #[{ on := 9, ground := Ground.data }, { on := 10, ground := Ground.data }, { on := 8, ground := Ground.chain }, { on := 8, ground := Ground.guard }], guard := some (8, true) }) (v := undef) rfl (by kernel_rfl) (by kernel_rfl) (by kernel_rfl) (fun _ _ _ h => h) (Or.inr ⟨by rfl, rfl⟩) hHeld ?_
          simp only [Act.put, List.setIfInBounds_toArray, List.set_cons_zero, List.set_cons_succ]
          refine wpAnyH_take (i := 12) (oi := { dst := some 79, op := Op.load 24 (Operand.tmp 7), type := 24, pos := "law.go:142", after := #[{ on := 8, ground := Ground.guard }], guard := some (8, true) }) (v := undef) rfl (by kernel_rfl) (by kernel_rfl) (by kernel_rfl) (fun _ _ _ h => h) (Or.inr ⟨by rfl, rfl⟩) hHeld ?_
          simp only [Act.put, List.setIfInBounds_toArray, List.set_cons_zero, List.set_cons_succ]
          refine wpAnyH_take (i := 13) (oi := { dst := some 80, op := Op.move (Operand.tmp 13), type := 37, pos := "law.go:142", after := #[{ on := 8, ground := Ground.guard }], guard := some (8, true) }) (v := undef) rfl (by kernel_rfl) (by kernel_rfl) (by kernel_rfl) (fun _ _ _ h => h) (Or.inr ⟨by rfl, rfl⟩) hHeld ?_
          simp only [Act.put, List.setIfInBounds_toArray, List.set_cons_zero, List.set_cons_succ]
          refine wpAnyH_take (i := 14) (oi := { dst := some 81, op := Op.call { callee := Callee.value (Operand.func 28), args := #[Operand.tmp 79, Operand.tmp 80], argTypes := #[24, 37] }, type := 3, pos := "law.go:142", after := #[{ on := 12, ground := Ground.data }, { on := 13, ground := Ground.data }, { on := 11, ground := Ground.chain }, { on := 8, ground := Ground.guard }], guard := some (8, true) }) (v := undef) rfl (by kernel_rfl) (by kernel_rfl) (by kernel_rfl) (fun _ _ _ h => h) (Or.inr ⟨by rfl, rfl⟩) hHeld ?_
          simp only [Act.put, List.setIfInBounds_toArray, List.set_cons_zero, List.set_cons_succ]
          refine wpAnyH_take (i := 15) (oi := { dst := some 82, op := Op.binOp BinOp.neq 3 (Operand.tmp 78) (Operand.tmp 81) 3, type := 4, pos := "law.go:142", after := #[{ on := 11, ground := Ground.data }, { on := 14, ground := Ground.data }, { on := 8, ground := Ground.guard }], guard := some (8, true) }) (v := undef) rfl (by kernel_rfl) (by kernel_rfl) (by kernel_rfl) (fun _ _ _ h => h) (Or.inr ⟨by rfl, rfl⟩) hHeld ?_
          simp only [Act.put, List.setIfInBounds_toArray, List.set_cons_zero, List.set_cons_succ]
          refine wpAnyH_take (i := 16) (oi := { dst := some 83, op := Op.pick (Operand.tmp 75) (Operand.tmp 82) (Operand.const (Value.bool false)), type := 4, pos := "law.go:142", after := #[{ on := 8, ground := Ground.data }, { on := 15, ground := Ground.data }], guard := none }) (v := ?vv17) rfl (by kernel_rfl) (by kernel_rfl) (by kernel_rfl) (fun _ _ _ h => h) (Or.inl ⟨by rfl, ?hy17⟩) hHeld ?rest17
          case hy17 => (intro wS hSw; (try dsimp only at hSw); go_simp; (try simp only [hka, hkb, hkc, Bool.not_false]); try with_reducible rfl)
          simp only [Act.put, List.setIfInBounds_toArray, List.set_cons_zero, List.set_cons_succ]
          refine wpAnyH_done (by kernel_rfl) ?_ _
          all_goals
            go_wp2_with fail
            go_roundg (45 - (k + 1))
            case measure => rw [hg.out]; omega
            case rel => exact ⟨k + 1, by omega, by omega, Lib.hid rfl, by go_num, Lib.hid hcall.out⟩
        · have hkc2 : ¬ (k : Int) = (c : Int) := by omega
          have hkd2 : ¬ (k : Int) = (d : Int) := by omega
          have hka : ((k : Int) == (c : Int)) = false := by simp [hkc2]
          have hkb : ((k : Int) != (c : Int)) = true := by simp [hkc2]
          have hkc : decide ((k : Int) = (c : Int)) = false := by simp [hkc2]
          have hda : ((k : Int) == (d : Int)) = false := by simp [hkd2]
          have hdb : ((k : Int) != (d : Int)) = true := by simp [hkd2]
          have hdc : decide ((k : Int) = (d : Int)) = false := by simp [hkd2]
          obtain ⟨va, eva⟩ : ∃ X, Lab.at' D0 ps0 k = X := ⟨_, rfl⟩
          have PZ := Lib.hid (fun (W : World) (v0 : Value) (r0 : RC W.heap.size W v0 Z2) => (at_c O2.out r0 ((HAe.out k hkn hkd).trans eva) : Calls Try.prog 28 #[.agg #[.int .i64 D0, v0], .int .u32 k] W fun e w' => e = .returned (.int .i64 va) ∧ Below W.heap.size W w'))
          have PA := Lib.hid (fun (W : World) (v0 : Value) (r0 : RC W.heap.size W v0 ps0) => (at_c O0.out r0 eva : Calls Try.prog 28 #[.agg #[.int .i64 D0, v0], .int .u32 k] W fun e w' => e = .returned (.int .i64 va) ∧ Below W.heap.size W w'))
          clear eva
          refine wp_region_held_drew (S := fun w' => w'.cell? ⟨A0, 0, none⟩ = some (.int .i64 D0) ∧ w'.cell? ⟨A0, 1, none⟩ = some ((.slice a0 n0 c0)) ∧ w'.cell? ⟨A1, 0, none⟩ = some (.int .i64 D0) ∧ w'.cell? ⟨A1, 1, none⟩ = some ((.slice a1 n1 c1))) (by kernel_rfl) (SC.out _ hcall.out) (fun hHeld => ?_)
          refine wpAnyH_take (i := 0) (oi := { dst := some 67, op := Op.move (Operand.tmp 13), type := 37, pos := "law.go:142", after := #[], guard := none }) (v := ?vv18) rfl (by kernel_rfl) (by kernel_rfl) (by kernel_rfl) (fun _ _ _ h => h) (Or.inl ⟨by rfl, ?hy18⟩) hHeld ?rest18
          case hy18 => (intro wS hSw; (try dsimp only at hSw); go_simp; (try simp only [hka, hkb, hkc, hda, hdb, hdc, Bool.not_false]); try with_reducible rfl)
          simp only [Act.put, List.setIfInBounds_toArray, List.set_cons_zero, List.set_cons_succ]
          refine wpAnyH_take (i := 1) (oi := { dst := some 68, op := Op.move (Operand.tmp 8), type := 37, pos := "law.go:142", after := #[], guard := none }) (v := ?vv19) rfl (by kernel_rfl) (by kernel_rfl) (by kernel_rfl) (fun _ _ _ h => h) (Or.inl ⟨by rfl, ?hy19⟩) hHeld ?rest19
          case hy19 => (intro wS hSw; (try dsimp only at hSw); go_simp; (try simp only [hka, hkb, hkc, hda, hdb, hdc, Bool.not_false]); try with_reducible rfl)
          simp only [Act.put, List.setIfInBounds_toArray, List.set_cons_zero, List.set_cons_succ]
          refine wpAnyH_take (i := 2) (oi := { dst := some 69, op := Op.binOp BinOp.neq 37 (Operand.tmp 67) (Operand.tmp 68) 37, type := 4, pos := "law.go:142", after := #[{ on := 0, ground := Ground.data }, { on := 1, ground := Ground.data }], guard := none }) (v := ?vv20) rfl (by kernel_rfl) (by kernel_rfl) (by kernel_rfl) (fun _ _ _ h => h) (Or.inl ⟨by rfl, ?hy20⟩) hHeld ?rest20
          case hy20 => (intro wS hSw; (try dsimp only at hSw); go_simp; (try simp only [hka, hkb, hkc, hda, hdb, hdc, Bool.not_false]); try with_reducible rfl)
          simp only [Act.put, List.setIfInBounds_toArray, List.set_cons_zero, List.set_cons_succ]
          refine wpAnyH_take (i := 3) (oi := { dst := some 70, op := Op.move (Operand.tmp 69), type := 4, pos := "law.go:142", after := #[{ on := 2, ground := Ground.data }], guard := none }) (v := ?vv21) rfl (by kernel_rfl) (by kernel_rfl) (by kernel_rfl) (fun _ _ _ h => h) (Or.inl ⟨by rfl, ?hy21⟩) hHeld ?rest21
          case hy21 => (intro wS hSw; (try dsimp only at hSw); go_simp; (try simp only [hka, hkb, hkc, hda, hdb, hdc, Bool.not_false]); try with_reducible rfl)
          simp only [Act.put, List.setIfInBounds_toArray, List.set_cons_zero, List.set_cons_succ]
          refine wpAnyH_take (i := 4) (oi := { dst := some 71, op := Op.move (Operand.tmp 13), type := 37, pos := "law.go:142", after := #[{ on := 3, ground := Ground.guard }], guard := some (3, true) }) (v := ?vv22) rfl (by kernel_rfl) (by kernel_rfl) (by kernel_rfl) (fun _ _ _ h => h) (Or.inl ⟨by rfl, ?hy22⟩) hHeld ?rest22
          case hy22 => (intro wS hSw; (try dsimp only at hSw); go_simp; (try simp only [hka, hkb, hkc, hda, hdb, hdc, Bool.not_false]); try with_reducible rfl)
          simp only [Act.put, List.setIfInBounds_toArray, List.set_cons_zero, List.set_cons_succ]
          refine wpAnyH_take (i := 5) (oi := { dst := some 72, op := Op.move (Operand.tmp 9), type := 37, pos := "law.go:142", after := #[{ on := 3, ground := Ground.guard }], guard := some (3, true) }) (v := ?vv23) rfl (by kernel_rfl) (by kernel_rfl) (by kernel_rfl) (fun _ _ _ h => h) (Or.inl ⟨by rfl, ?hy23⟩) hHeld ?rest23
          case hy23 => (intro wS hSw; (try dsimp only at hSw); go_simp; (try simp only [hka, hkb, hkc, hda, hdb, hdc, Bool.not_false]); try with_reducible rfl)
          simp only [Act.put, List.setIfInBounds_toArray, List.set_cons_zero, List.set_cons_succ]
          refine wpAnyH_take (i := 6) (oi := { dst := some 73, op := Op.binOp BinOp.neq 37 (Operand.tmp 71) (Operand.tmp 72) 37, type := 4, pos := "law.go:142", after := #[{ on := 4, ground := Ground.data }, { on := 5, ground := Ground.data }, { on := 3, ground := Ground.guard }], guard := some (3, true) }) (v := ?vv24) rfl (by kernel_rfl) (by kernel_rfl) (by kernel_rfl) (fun _ _ _ h => h) (Or.inl ⟨by rfl, ?hy24⟩) hHeld ?rest24
          case hy24 => (intro wS hSw; (try dsimp only at hSw); go_simp; (try simp only [hka, hkb, hkc, hda, hdb, hdc, Bool.not_false]); try with_reducible rfl)
          simp only [Act.put, List.setIfInBounds_toArray, List.set_cons_zero, List.set_cons_succ]
          refine wpAnyH_take (i := 7) (oi := { dst := some 74, op := Op.pick (Operand.tmp 70) (Operand.tmp 73) (Operand.const (Value.bool false)), type := 4, pos := "law.go:142", after := #[{ on := 3, ground := Ground.data }, { on := 6, ground := Ground.data }], guard := none }) (v := ?vv25) rfl (by kernel_rfl) (by kernel_rfl) (by kernel_rfl) (fun _ _ _ h => h) (Or.inl ⟨by rfl, ?hy25⟩) hHeld ?rest25
          case hy25 => (intro wS hSw; (try dsimp only at hSw); go_simp; (try simp only [hka, hkb, hkc, hda, hdb, hdc, Bool.not_false]); try with_reducible rfl)
          simp only [Act.put, List.setIfInBounds_toArray, List.set_cons_zero, List.set_cons_succ]
          refine wpAnyH_take (i := 8) (oi := { dst := some 75, op := Op.move (Operand.tmp 74), type := 4, pos := "law.go:142", after := #[{ on := 7, ground := Ground.data }, { on := 3, ground := Ground.chain }], guard := none }) (v := ?vv26) rfl (by kernel_rfl) (by kernel_rfl) (by kernel_rfl) (fun _ _ _ h => h) (Or.inl ⟨by rfl, ?hy26⟩) hHeld ?rest26
          case hy26 => (intro wS hSw; (try dsimp only at hSw); go_simp; (try simp only [hka, hkb, hkc, hda, hdb, hdc, Bool.not_false]); try with_reducible rfl)
          simp only [Act.put, List.setIfInBounds_toArray, List.set_cons_zero, List.set_cons_succ]
          refine wpAnyH_take (i := 9) (oi := { dst := some 76, op := Op.load 24 (Operand.tmp 12), type := 24, pos := "law.go:142", after := #[{ on := 8, ground := Ground.guard }], guard := some (8, true) }) (v := ?vv27) rfl (by kernel_rfl) (by kernel_rfl) (by kernel_rfl) (fun _ _ _ h => h) (Or.inl ⟨by rfl, ?hy27⟩) hHeld ?rest27
          case hy27 => (intro wS hSw; (try dsimp only at hSw); go_simp; (try simp only [hka, hkb, hkc, hda, hdb, hdc, Bool.not_false]); try with_reducible rfl)
          simp only [Act.put, List.setIfInBounds_toArray, List.set_cons_zero, List.set_cons_succ]
          refine wpAnyH_take (i := 10) (oi := { dst := some 77, op := Op.move (Operand.tmp 13), type := 37, pos := "law.go:142", after := #[{ on := 8, ground := Ground.guard }], guard := some (8, true) }) (v := ?vv28) rfl (by kernel_rfl) (by kernel_rfl) (by kernel_rfl) (fun _ _ _ h => h) (Or.inl ⟨by rfl, ?hy28⟩) hHeld ?rest28
          case hy28 => (intro wS hSw; (try dsimp only at hSw); go_simp; (try simp only [hka, hkb, hkc, hda, hdb, hdc, Bool.not_false]); try with_reducible rfl)
          simp only [Act.put, List.setIfInBounds_toArray, List.set_cons_zero, List.set_cons_succ]
          refine wpAnyH_take (i := 12) (oi := { dst := some 79, op := Op.load 24 (Operand.tmp 7), type := 24, pos := "law.go:142", after := #[{ on := 8, ground := Ground.guard }], guard := some (8, true) }) (v := ?vv29) rfl (by kernel_rfl) (by kernel_rfl) (by kernel_rfl) (fun _ _ _ h => h) (Or.inl ⟨by rfl, ?hy29⟩) hHeld ?rest29
          case hy29 => (intro wS hSw; (try dsimp only at hSw); go_simp; (try simp only [hka, hkb, hkc, hda, hdb, hdc, Bool.not_false]); try with_reducible rfl)
          simp only [Act.put, List.setIfInBounds_toArray, List.set_cons_zero, List.set_cons_succ]
          refine wpAnyH_take (i := 13) (oi := { dst := some 80, op := Op.move (Operand.tmp 13), type := 37, pos := "law.go:142", after := #[{ on := 8, ground := Ground.guard }], guard := some (8, true) }) (v := ?vv30) rfl (by kernel_rfl) (by kernel_rfl) (by kernel_rfl) (fun _ _ _ h => h) (Or.inl ⟨by rfl, ?hy30⟩) hHeld ?rest30
          case hy30 => (intro wS hSw; (try dsimp only at hSw); go_simp; (try simp only [hka, hkb, hkc, hda, hdb, hdc, Bool.not_false]); try with_reducible rfl)
          simp only [Act.put, List.setIfInBounds_toArray, List.set_cons_zero, List.set_cons_succ]
          refine wpAnyH_ready (rs := [11]) (by kernel_rfl) (by simp) ?_
          refine AllReadyH.cons (o := { dst := some 78, op := Op.call { callee := Callee.value (Operand.func 28), args := #[Operand.tmp 76, Operand.tmp 77], argTypes := #[24, 37] }, type := 3, pos := "law.go:142", after := #[{ on := 9, ground := Ground.data }, { on := 10, ground := Ground.data }, { on := 8, ground := Ground.chain }, { on := 8, ground := Ground.guard }], guard := some (8, true) }) rfl (fun K hK => ?_) AllReadyH.nil
          go_simp
          with_reducible refine (PZ.out _ _ (KS.out _ hcall.out).2.1.rc).mono ?_
          rintro e wq ⟨rfl, hb'⟩
          replace hcall := Lib.hid (hcall.out.trans (hb'.mono hcall.out.size))
          clear hb' hHeld
          try go_wp2_with fail
          refine hK.out _ _ (SC.out _ hcall.out) (fun hHeld => ?_)
          clear hK K
          try simp only [Act.put, List.setIfInBounds_toArray, List.set_cons_zero, List.set_cons_succ]
          refine wpAnyH_ready (rs := [14]) (by kernel_rfl) (by simp) ?_
          refine AllReadyH.cons (o := { dst := some 81, op := Op.call { callee := Callee.value (Operand.func 28), args := #[Operand.tmp 79, Operand.tmp 80], argTypes := #[24, 37] }, type := 3, pos := "law.go:142", after := #[{ on := 12, ground := Ground.data }, { on := 13, ground := Ground.data }, { on := 11, ground := Ground.chain }, { on := 8, ground := Ground.guard }], guard := some (8, true) }) rfl (fun K hK => ?_) AllReadyH.nil
          go_simp
          with_reducible refine (PA.out _ _ (KS.out _ hcall.out).1.rc).mono ?_
          rintro e wq ⟨rfl, hb'⟩
          replace hcall := Lib.hid (hcall.out.trans (hb'.mono hcall.out.size))
          clear hb' hHeld
          try go_wp2_with fail
          refine hK.out _ _ (SC.out _ hcall.out) (fun hHeld => ?_)
          clear hK K
          try simp only [Act.put, List.setIfInBounds_toArray, List.set_cons_zero, List.set_cons_succ]
          refine wpAnyH_take (i := 15) (oi := { dst := some 82, op := Op.binOp BinOp.neq 3 (Operand.tmp 78) (Operand.tmp 81) 3, type := 4, pos := "law.go:142", after := #[{ on := 11, ground := Ground.data }, { on := 14, ground := Ground.data }, { on := 8, ground := Ground.guard }], guard := some (8, true) }) (v := ?vv31) rfl (by kernel_rfl) (by kernel_rfl) (by kernel_rfl) (fun _ _ _ h => h) (Or.inl ⟨by rfl, ?hy31⟩) hHeld ?rest31
          case hy31 => (intro wS hSw; (try dsimp only at hSw); go_simp; (try simp only [hka, hkb, hkc, hda, hdb, hdc, Bool.not_false]); try with_reducible rfl)
          simp only [Act.put, List.setIfInBounds_toArray, List.set_cons_zero, List.set_cons_succ]
          refine wpAnyH_take (i := 16) (oi := { dst := some 83, op := Op.pick (Operand.tmp 75) (Operand.tmp 82) (Operand.const (Value.bool false)), type := 4, pos := "law.go:142", after := #[{ on := 8, ground := Ground.data }, { on := 15, ground := Ground.data }], guard := none }) (v := ?vv32) rfl (by kernel_rfl) (by kernel_rfl) (by kernel_rfl) (fun _ _ _ h => h) (Or.inl ⟨by rfl, ?hy32⟩) hHeld ?rest32
          case hy32 => (intro wS hSw; (try dsimp only at hSw); go_simp; (try simp only [hka, hkb, hkc, hda, hdb, hdc, Bool.not_false]); try with_reducible rfl)
          simp only [Act.put, List.setIfInBounds_toArray, List.set_cons_zero, List.set_cons_succ]
          refine wpAnyH_done (by kernel_rfl) ?_ _
          all_goals
            go_wp2_with fail
            go_roundg (45 - (k + 1))
            case measure => rw [hg.out]; omega
            case rel => exact ⟨k + 1, by omega, by omega, Lib.hid rfl, by go_num, Lib.hid hcall.out⟩
      · have hcall := Lib.hid hr.out
        obtain ⟨q0a, q0b, q1a, q1b⟩ := SC.out _ hcall.out
        clear hg hr H7
        go_wp2_with fail
        refine (P3.out _ _ (KS.out _ hcall.out).2.1.rc).mono ?_
        rintro e wq ⟨a9, n9, c9, rfl, ho, hb'⟩
        have EN9 := Lib.hid (rc_slice (rc_of_owns ho (by omega)))
        have hw := Lib.hid (hcall.out.trans (hb'.mono hcall.out.size)).drew
        clear hcall ho q0a q0b q1a q1b
        have hcall := hw
        clear hw hb'
        go_wp2_with fail
        rw [field1]
        go_upto_region 15 with fail
        have st0 := Lib.hid (show 0 = 0 from rfl)
        have h14 : n1 ≤ 14 := by have := EN1.out; omega
        have hl := HLen.out
        rw [← EN1.out, ← EN9.out] at hl
        clear HLen EN1 EN9
        by_cases hlD : l2 = D0
        · rw [if_pos hlD] at hl
          obtain rfl : n1 = n9 := by omega
          clear hl
          have hDl : D0 = l2 := hlD.symm
          clear hlD
          subst hDl
          refine wp_region_held_drew (S := fun w' => w'.cell? ⟨A0, 0, none⟩ = some (.int .i64 D0) ∧ w'.cell? ⟨A0, 1, none⟩ = some ((.slice a0 n0 c0)) ∧ w'.cell? ⟨A1, 0, none⟩ = some (.int .i64 D0) ∧ w'.cell? ⟨A1, 1, none⟩ = some ((.slice a1 n1 c1))) (by kernel_rfl) (SC.out _ hcall.out) (fun hHeld => ?_)
          refine wpAnyH_take (i := 0) (oi := { dst := some 91, op := Op.load 24 (Operand.tmp 12), type := 24, pos := "law.go:147", after := #[], guard := none }) (v := ?vv33) rfl (by kernel_rfl) (by kernel_rfl) (by kernel_rfl) (fun _ _ _ h => h) (Or.inl ⟨by rfl, ?hy33⟩) hHeld ?rest33
          case hy33 => (intro wS hSw; (try dsimp only at hSw); go_simp; try with_reducible rfl)
          simp only [Act.put, List.setIfInBounds_toArray, List.set_cons_zero, List.set_cons_succ]
          refine wpAnyH_take (i := 1) (oi := { dst := some 92, op := Op.move (Operand.tmp 9), type := 37, pos := "law.go:147", after := #[], guard := none }) (v := ?vv34) rfl (by kernel_rfl) (by kernel_rfl) (by kernel_rfl) (fun _ _ _ h => h) (Or.inl ⟨by rfl, ?hy34⟩) hHeld ?rest34
          case hy34 => (intro wS hSw; (try dsimp only at hSw); go_simp; try with_reducible rfl)
          simp only [Act.put, List.setIfInBounds_toArray, List.set_cons_zero, List.set_cons_succ]
          refine wpAnyH_take (i := 2) (oi := { dst := some 93, op := Op.move (Operand.tmp 11), type := 3, pos := "law.go:147", after := #[], guard := none }) (v := ?vv35) rfl (by kernel_rfl) (by kernel_rfl) (by kernel_rfl) (fun _ _ _ h => h) (Or.inl ⟨by rfl, ?hy35⟩) hHeld ?rest35
          case hy35 => (intro wS hSw; (try dsimp only at hSw); go_simp; try with_reducible rfl)
          simp only [Act.put, List.setIfInBounds_toArray, List.set_cons_zero, List.set_cons_succ]
          refine wpAnyH_take (i := 4) (oi := { dst := some 95, op := Op.load 24 (Operand.tmp 12), type := 24, pos := "law.go:147", after := #[], guard := none }) (v := ?vv36) rfl (by kernel_rfl) (by kernel_rfl) (by kernel_rfl) (fun _ _ _ h => h) (Or.inl ⟨by rfl, ?hy36⟩) hHeld ?rest36
          case hy36 => (intro wS hSw; (try dsimp only at hSw); go_simp; try with_reducible rfl)
          simp only [Act.put, List.setIfInBounds_toArray, List.set_cons_zero, List.set_cons_succ]
          refine wpAnyH_ready (rs := [3]) (by kernel_rfl) (by simp) ?_
          refine AllReadyH.cons (o := { dst := some 94, op := Op.call { callee := Callee.value (Operand.func 25), args := #[Operand.tmp 91, Operand.tmp 92, Operand.tmp 93], argTypes := #[24, 37, 3] }, type := 24, pos := "law.go:147", after := #[{ on := 0, ground := Ground.data }, { on := 1, ground := Ground.data }, { on := 2, ground := Ground.data }], guard := none }) rfl (fun K hK => ?_) AllReadyH.nil
          go_simp
          with_reducible refine (P4.out _ _ (KS.out _ hcall.out).2.1.rc).mono ?_
          rintro e wq ⟨a8, n8, c8, rfl, ho, hb'⟩
          have R8 := Lib.hid (rc_of_owns ho (by omega))
          clear ho
          replace hcall := Lib.hid (hcall.out.trans (hb'.mono hcall.out.size))
          clear hb' hHeld
          try go_wp2_with fail
          refine hK.out _ _ (SC.out _ hcall.out) (fun hHeld => ?_)
          clear hK K
          try simp only [Act.put, List.setIfInBounds_toArray, List.set_cons_zero, List.set_cons_succ]
          refine wpAnyH_ready (rs := [5]) (by kernel_rfl) (by simp) ?_
          refine AllReadyH.cons (o := { dst := some 96, op := Op.call { callee := Callee.value (Operand.func 18), args := #[Operand.tmp 94, Operand.tmp 95], argTypes := #[24, 24] }, type := 4, pos := "law.go:147", after := #[{ on := 3, ground := Ground.data }, { on := 4, ground := Ground.data }, { on := 3, ground := Ground.chain }], guard := none }) rfl (fun K hK => ?_) AllReadyH.nil
          go_simp
          with_reducible refine (same_yes R8.out (KS.out _ hcall.out).2.1.rc ⟨rfl, rfl⟩).mono ?_
          rintro e wq ⟨rfl, hb'⟩
          replace hcall := Lib.hid (hcall.out.trans (hb'.mono hcall.out.size))
          clear hb' hHeld
          try go_wp2_with fail
          refine hK.out _ _ (SC.out _ hcall.out) (fun hHeld => ?_)
          clear hK K
          try simp only [Act.put, List.setIfInBounds_toArray, List.set_cons_zero, List.set_cons_succ]
          refine wpAnyH_take (i := 6) (oi := { dst := some 97, op := Op.move (Operand.tmp 96), type := 4, pos := "law.go:147", after := #[{ on := 5, ground := Ground.data }, { on := 5, ground := Ground.chain }], guard := none }) (v := ?vv37) rfl (by kernel_rfl) (by kernel_rfl) (by kernel_rfl) (fun _ _ _ h => h) (Or.inl ⟨by rfl, ?hy37⟩) hHeld ?rest37
          case hy37 => (intro wS hSw; (try dsimp only at hSw); go_simp; try with_reducible rfl)
          simp only [Act.put, List.setIfInBounds_toArray, List.set_cons_zero, List.set_cons_succ]
          refine wpAnyH_take (i := 7) (oi := { dst := some 98, op := Op.move (Operand.tmp 11), type := 3, pos := "law.go:147", after := #[{ on := 6, ground := Ground.guard }], guard := some (6, true) }) (v := ?vv38) rfl (by kernel_rfl) (by kernel_rfl) (by kernel_rfl) (fun _ _ _ h => h) (Or.inl ⟨by rfl, ?hy38⟩) hHeld ?rest38
          case hy38 => (intro wS hSw; (try dsimp only at hSw); go_simp; try with_reducible rfl)
          simp only [Act.put, List.setIfInBounds_toArray, List.set_cons_zero, List.set_cons_succ]
          refine wpAnyH_take (i := 8) (oi := { dst := some 99, op := Op.fieldAddr 24 (Operand.tmp 12) 0, type := 0, pos := "law.go:147", after := #[{ on := 6, ground := Ground.guard }], guard := some (6, true) }) (v := ?vv39) rfl (by kernel_rfl) (by kernel_rfl) (by kernel_rfl) (fun _ _ _ h => h) (Or.inl ⟨by rfl, ?hy39⟩) hHeld ?rest39
          case hy39 => (intro wS hSw; (try dsimp only at hSw); go_simp; try with_reducible rfl)
          simp only [Act.put, List.setIfInBounds_toArray, List.set_cons_zero, List.set_cons_succ]
          refine wpAnyH_take (i := 9) (oi := { dst := some 100, op := Op.load 3 (Operand.tmp 99), type := 3, pos := "law.go:147", after := #[{ on := 8, ground := Ground.data }, { on := 6, ground := Ground.guard }], guard := some (6, true) }) (v := ?vv40) rfl (by kernel_rfl) (by kernel_rfl) (by kernel_rfl) (fun _ _ _ h => h) (Or.inl ⟨by rfl, ?hy40⟩) hHeld ?rest40
          case hy40 => (intro wS hSw; (try dsimp only at hSw); go_simp; try with_reducible rfl)
          simp only [Act.put, List.setIfInBounds_toArray, List.set_cons_zero, List.set_cons_succ]
          refine wpAnyH_take (i := 10) (oi := { dst := some 101, op := Op.binOp BinOp.eql 3 (Operand.tmp 98) (Operand.tmp 100) 3, type := 4, pos := "law.go:147", after := #[{ on := 7, ground := Ground.data }, { on := 9, ground := Ground.data }, { on := 6, ground := Ground.guard }], guard := some (6, true) }) (v := ?vv41) rfl (by kernel_rfl) (by kernel_rfl) (by kernel_rfl) (fun _ _ _ h => h) (Or.inl ⟨by rfl, ?hy41⟩) hHeld ?rest41
          case hy41 => (intro wS hSw; (try dsimp only at hSw); go_simp; try with_reducible rfl)
          simp only [Act.put, List.setIfInBounds_toArray, List.set_cons_zero, List.set_cons_succ]
          refine wpAnyH_take (i := 11) (oi := { dst := some 102, op := Op.move (Operand.tmp 101), type := 4, pos := "law.go:147", after := #[{ on := 10, ground := Ground.data }, { on := 6, ground := Ground.chain }, { on := 6, ground := Ground.guard }], guard := some (6, true) }) (v := ?vv42) rfl (by kernel_rfl) (by kernel_rfl) (by kernel_rfl) (fun _ _ _ h => h) (Or.inl ⟨by rfl, ?hy42⟩) hHeld ?rest42
          case hy42 => (intro wS hSw; (try dsimp only at hSw); go_simp; try with_reducible rfl)
          simp only [Act.put, List.setIfInBounds_toArray, List.set_cons_zero, List.set_cons_succ]
          refine wpAnyH_take (i := 12) (oi := { dst := some 103, op := Op.move (Operand.tmp 14), type := 3, pos := "law.go:147", after := #[{ on := 11, ground := Ground.guard }], guard := some (11, true) }) (v := ?vv43) rfl (by kernel_rfl) (by kernel_rfl) (by kernel_rfl) (fun _ _ _ h => h) (Or.inl ⟨by rfl, ?hy43⟩) hHeld ?rest43
          case hy43 => (intro wS hSw; (try dsimp only at hSw); go_simp; try with_reducible rfl)
          simp only [Act.put, List.setIfInBounds_toArray, List.set_cons_zero, List.set_cons_succ]
          refine wpAnyH_take (i := 13) (oi := { dst := some 104, op := Op.fieldAddr 24 (Operand.tmp 12) 1, type := 0, pos := "law.go:147", after := #[{ on := 11, ground := Ground.guard }], guard := some (11, true) }) (v := ?vv44) rfl (by kernel_rfl) (by kernel_rfl) (by kernel_rfl) (fun _ _ _ h => h) (Or.inl ⟨by rfl, ?hy44⟩) hHeld ?rest44
          case hy44 => (intro wS hSw; (try dsimp only at hSw); go_simp; try with_reducible rfl)
          simp only [Act.put, List.setIfInBounds_toArray, List.set_cons_zero, List.set_cons_succ]
          refine wpAnyH_take (i := 14) (oi := { dst := some 105, op := Op.load 22 (Operand.tmp 104), type := 22, pos := "law.go:147", after := #[{ on := 13, ground := Ground.data }, { on := 11, ground := Ground.guard }], guard := some (11, true) }) (v := ?vv45) rfl (by kernel_rfl) (by kernel_rfl) (by kernel_rfl) (fun _ _ _ h => h) (Or.inl ⟨by rfl, ?hy45⟩) hHeld ?rest45
          case hy45 => (intro wS hSw; (try dsimp only at hSw); go_simp; try with_reducible rfl)
          simp only [Act.put, List.setIfInBounds_toArray, List.set_cons_zero, List.set_cons_succ]
          refine wpAnyH_take (i := 15) (oi := { dst := some 106, op := Op.call { callee := Callee.builtin Builtin.len, args := #[Operand.tmp 105], argTypes := #[22] }, type := 3, pos := "law.go:147", after := #[{ on := 14, ground := Ground.data }, { on := 11, ground := Ground.guard }], guard := some (11, true) }) (v := ?vv46) rfl (by kernel_rfl) (by kernel_rfl) (by kernel_rfl) (fun _ _ _ h => h) (Or.inl ⟨by rfl, ?hy46⟩) hHeld ?rest46
          case hy46 => (intro wS hSw; (try dsimp only at hSw); go_simp; try with_reducible rfl)
          simp only [Act.put, List.setIfInBounds_toArray, List.set_cons_zero, List.set_cons_succ]
          refine wpAnyH_take (i := 16) (oi := { dst := some 107, op := Op.binOp BinOp.eql 3 (Operand.tmp 103) (Operand.tmp 106) 3, type := 4, pos := "law.go:147", after := #[{ on := 12, ground := Ground.data }, { on := 15, ground := Ground.data }, { on := 11, ground := Ground.guard }], guard := some (11, true) }) (v := ?vv47) rfl (by kernel_rfl) (by kernel_rfl) (by kernel_rfl) (fun _ _ _ h => h) (Or.inl ⟨by rfl, ?hy47⟩) hHeld ?rest47
          case hy47 => (intro wS hSw; (try dsimp only at hSw); go_simp; try with_reducible rfl)
          simp only [Act.put, List.setIfInBounds_toArray, List.set_cons_zero, List.set_cons_succ]
          refine wpAnyH_take (i := 17) (oi := { dst := some 108, op := Op.pick (Operand.tmp 102) (Operand.tmp 107) (Operand.const (Value.bool false)), type := 4, pos := "law.go:147", after := #[{ on := 11, ground := Ground.data }, { on := 16, ground := Ground.data }, { on := 6, ground := Ground.guard }], guard := some (6, true) }) (v := ?vv48) rfl (by kernel_rfl) (by kernel_rfl) (by kernel_rfl) (fun _ _ _ h => h) (Or.inl ⟨by rfl, ?hy48⟩) hHeld ?rest48
          case hy48 => (intro wS hSw; (try dsimp only at hSw); go_simp; try with_reducible rfl)
          simp only [Act.put, List.setIfInBounds_toArray, List.set_cons_zero, List.set_cons_succ]
          refine wpAnyH_take (i := 18) (oi := { dst := some 109, op := Op.move (Operand.tmp 108), type := 4, pos := "law.go:147", after := #[{ on := 17, ground := Ground.data }, { on := 11, ground := Ground.chain }, { on := 6, ground := Ground.guard }], guard := some (6, true) }) (v := ?vv49) rfl (by kernel_rfl) (by kernel_rfl) (by kernel_rfl) (fun _ _ _ h => h) (Or.inl ⟨by rfl, ?hy49⟩) hHeld ?rest49
          case hy49 => (intro wS hSw; (try dsimp only at hSw); go_simp; try with_reducible rfl)
          simp only [Act.put, List.setIfInBounds_toArray, List.set_cons_zero, List.set_cons_succ]
          refine wpAnyH_take (i := 19) (oi := { dst := some 110, op := Op.move (Operand.tmp 11), type := 3, pos := "law.go:147", after := #[{ on := 18, ground := Ground.guard }], guard := some (18, false) }) (v := undef) rfl (by kernel_rfl) (by kernel_rfl) (by kernel_rfl) (fun _ _ _ h => h) (Or.inr ⟨by rfl, rfl⟩) hHeld ?_
          simp only [Act.put, List.setIfInBounds_toArray, List.set_cons_zero, List.set_cons_succ]
          refine wpAnyH_take (i := 20) (oi := { dst := some 111, op := Op.fieldAddr 24 (Operand.tmp 12) 0, type := 0, pos := "law.go:147", after := #[{ on := 18, ground := Ground.guard }], guard := some (18, false) }) (v := undef) rfl (by kernel_rfl) (by kernel_rfl) (by kernel_rfl) (fun _ _ _ h => h) (Or.inr ⟨by rfl, rfl⟩) hHeld ?_
          simp only [Act.put, List.setIfInBounds_toArray, List.set_cons_zero, List.set_cons_succ]
          refine wpAnyH_take (i := 21) (oi := { dst := some 112, op := Op.load 3 (Operand.tmp 111), type := 3, pos := "law.go:147", after := #[{ on := 20, ground := Ground.data }, { on := 18, ground := Ground.guard }], guard := some (18, false) }) (v := undef) rfl (by kernel_rfl) (by kernel_rfl) (by kernel_rfl) (fun _ _ _ h => h) (Or.inr ⟨by rfl, rfl⟩) hHeld ?_
          simp only [Act.put, List.setIfInBounds_toArray, List.set_cons_zero, List.set_cons_succ]
          refine wpAnyH_take (i := 22) (oi := { dst := some 113, op := Op.binOp BinOp.neq 3 (Operand.tmp 110) (Operand.tmp 112) 3, type := 4, pos := "law.go:147", after := #[{ on := 19, ground := Ground.data }, { on := 21, ground := Ground.data }, { on := 18, ground := Ground.guard }], guard := some (18, false) }) (v := undef) rfl (by kernel_rfl) (by kernel_rfl) (by kernel_rfl) (fun _ _ _ h => h) (Or.inr ⟨by rfl, rfl⟩) hHeld ?_
          simp only [Act.put, List.setIfInBounds_toArray, List.set_cons_zero, List.set_cons_succ]
          refine wpAnyH_take (i := 23) (oi := { dst := some 114, op := Op.move (Operand.tmp 113), type := 4, pos := "law.go:147", after := #[{ on := 22, ground := Ground.data }, { on := 18, ground := Ground.chain }, { on := 18, ground := Ground.guard }], guard := some (18, false) }) (v := undef) rfl (by kernel_rfl) (by kernel_rfl) (by kernel_rfl) (fun _ _ _ h => h) (Or.inr ⟨by rfl, rfl⟩) hHeld ?_
          simp only [Act.put, List.setIfInBounds_toArray, List.set_cons_zero, List.set_cons_succ]
          refine wpAnyH_take (i := 24) (oi := { dst := some 115, op := Op.move (Operand.tmp 14), type := 3, pos := "law.go:147", after := #[{ on := 23, ground := Ground.guard }], guard := some (23, true) }) (v := undef) rfl (by kernel_rfl) (by kernel_rfl) (by kernel_rfl) (fun _ _ _ h => h) (Or.inr ⟨by rfl, rfl⟩) hHeld ?_
          simp only [Act.put, List.setIfInBounds_toArray, List.set_cons_zero, List.set_cons_succ]
          refine wpAnyH_take (i := 25) (oi := { dst := some 116, op := Op.fieldAddr 24 (Operand.tmp 12) 1, type := 0, pos := "law.go:147", after := #[{ on := 23, ground := Ground.guard }], guard := some (23, true) }) (v := undef) rfl (by kernel_rfl) (by kernel_rfl) (by kernel_rfl) (fun _ _ _ h => h) (Or.inr ⟨by rfl, rfl⟩) hHeld ?_
          simp only [Act.put, List.setIfInBounds_toArray, List.set_cons_zero, List.set_cons_succ]
          refine wpAnyH_take (i := 26) (oi := { dst := some 117, op := Op.load 22 (Operand.tmp 116), type := 22, pos := "law.go:147", after := #[{ on := 25, ground := Ground.data }, { on := 23, ground := Ground.guard }], guard := some (23, true) }) (v := undef) rfl (by kernel_rfl) (by kernel_rfl) (by kernel_rfl) (fun _ _ _ h => h) (Or.inr ⟨by rfl, rfl⟩) hHeld ?_
          simp only [Act.put, List.setIfInBounds_toArray, List.set_cons_zero, List.set_cons_succ]
          refine wpAnyH_take (i := 27) (oi := { dst := some 118, op := Op.call { callee := Callee.builtin Builtin.len, args := #[Operand.tmp 117], argTypes := #[22] }, type := 3, pos := "law.go:147", after := #[{ on := 26, ground := Ground.data }, { on := 23, ground := Ground.guard }], guard := some (23, true) }) (v := undef) rfl (by kernel_rfl) (by kernel_rfl) (by kernel_rfl) (fun _ _ _ h => h) (Or.inr ⟨by rfl, rfl⟩) hHeld ?_
          simp only [Act.put, List.setIfInBounds_toArray, List.set_cons_zero, List.set_cons_succ]
          refine wpAnyH_take (i := 28) (oi := { dst := some 119, op := Op.binOp BinOp.sub 3 (Operand.tmp 118) (Operand.const (Value.int IntKind.i64 1)) 3, type := 3, pos := "law.go:147", after := #[{ on := 27, ground := Ground.data }, { on := 23, ground := Ground.guard }], guard := some (23, true) }) (v := undef) rfl (by kernel_rfl) (by kernel_rfl) (by kernel_rfl) (fun _ _ _ h => h) (Or.inr ⟨by rfl, rfl⟩) hHeld ?_
          simp only [Act.put, List.setIfInBounds_toArray, List.set_cons_zero, List.set_cons_succ]
          refine wpAnyH_take (i := 29) (oi := { dst := some 120, op := Op.binOp BinOp.eql 3 (Operand.tmp 115) (Operand.tmp 119) 3, type := 4, pos := "law.go:147", after := #[{ on := 24, ground := Ground.data }, { on := 28, ground := Ground.data }, { on := 23, ground := Ground.guard }], guard := some (23, true) }) (v := undef) rfl (by kernel_rfl) (by kernel_rfl) (by kernel_rfl) (fun _ _ _ h => h) (Or.inr ⟨by rfl, rfl⟩) hHeld ?_
          simp only [Act.put, List.setIfInBounds_toArray, List.set_cons_zero, List.set_cons_succ]
          refine wpAnyH_take (i := 30) (oi := { dst := some 121, op := Op.pick (Operand.tmp 114) (Operand.tmp 120) (Operand.const (Value.bool false)), type := 4, pos := "law.go:147", after := #[{ on := 23, ground := Ground.data }, { on := 29, ground := Ground.data }, { on := 18, ground := Ground.guard }], guard := some (18, false) }) (v := undef) rfl (by kernel_rfl) (by kernel_rfl) (by kernel_rfl) (fun _ _ _ h => h) (Or.inr ⟨by rfl, rfl⟩) hHeld ?_
          simp only [Act.put, List.setIfInBounds_toArray, List.set_cons_zero, List.set_cons_succ]
          refine wpAnyH_take (i := 31) (oi := { dst := some 122, op := Op.pick (Operand.tmp 109) (Operand.const (Value.bool true)) (Operand.tmp 121), type := 4, pos := "law.go:147", after := #[{ on := 18, ground := Ground.data }, { on := 30, ground := Ground.data }, { on := 6, ground := Ground.guard }], guard := some (6, true) }) (v := ?vv50) rfl (by kernel_rfl) (by kernel_rfl) (by kernel_rfl) (fun _ _ _ h => h) (Or.inl ⟨by rfl, ?hy50⟩) hHeld ?rest50
          case hy50 => (intro wS hSw; (try dsimp only at hSw); go_simp; try with_reducible rfl)
          simp only [Act.put, List.setIfInBounds_toArray, List.set_cons_zero, List.set_cons_succ]
          refine wpAnyH_take (i := 32) (oi := { dst := some 123, op := Op.pick (Operand.tmp 97) (Operand.tmp 122) (Operand.const (Value.bool false)), type := 4, pos := "law.go:147", after := #[{ on := 6, ground := Ground.data }, { on := 31, ground := Ground.data }], guard := none }) (v := ?vv51) rfl (by kernel_rfl) (by kernel_rfl) (by kernel_rfl) (fun _ _ _ h => h) (Or.inl ⟨by rfl, ?hy51⟩) hHeld ?rest51
          case hy51 => (intro wS hSw; (try dsimp only at hSw); go_simp; try with_reducible rfl)
          simp only [Act.put, List.setIfInBounds_toArray, List.set_cons_zero, List.set_cons_succ]
          refine wpAnyH_take (i := 33) (oi := { dst := some 6, op := Op.assign (Operand.tmp 123), type := 4, pos := "law.go:147", after := #[{ on := 32, ground := Ground.data }, { on := 23, ground := Ground.chain }, { on := 0, ground := Ground.phase }, { on := 1, ground := Ground.phase }, { on := 2, ground := Ground.phase }, { on := 3, ground := Ground.phase }, { on := 4, ground := Ground.phase }, { on := 5, ground := Ground.phase }, { on := 6, ground := Ground.phase }, { on := 7, ground := Ground.phase }, { on := 8, ground := Ground.phase }, { on := 9, ground := Ground.phase }, { on := 10, ground := Ground.phase }, { on := 11, ground := Ground.phase }, { on := 12, ground := Ground.phase }, { on := 13, ground := Ground.phase }, { on := 14, ground := Ground.phase }, { on := 15, ground := Ground.phase }, { on := 16, ground := Ground.phase }, { on := 17, ground := Ground.phase }, { on := 18, ground := Ground.phase }, { on := 19, ground := Ground.phase }, { on := 20, ground := Ground.phase }, { on := 21, ground := Ground.phase }, { on := 22, ground := Ground.phase }, { on := 23, ground := Ground.phase }, { on := 24, ground := Ground.phase }, { on := 25, ground := Ground.phase }, { on := 26, ground := Ground.phase }, { on := 27, ground := Ground.phase }, { on := 28, ground := Ground.phase }, { on := 29, ground := Ground.phase }, { on := 30, ground := Ground.phase }, { on := 31, ground := Ground.phase }, { on := 32, ground := Ground.phase }], guard := none }) (v := ?vv52) rfl (by kernel_rfl) (by kernel_rfl) (by kernel_rfl) (fun _ _ _ h => h) (Or.inl ⟨by rfl, ?hy52⟩) hHeld ?rest52
          case hy52 => (intro wS hSw; (try dsimp only at hSw); go_simp; try with_reducible rfl)
          simp only [Act.put, List.setIfInBounds_toArray, List.set_cons_zero, List.set_cons_succ]
          refine wpAnyH_done (by kernel_rfl) ?_ _
          all_goals
            go_wp2_with fail
            go_ret
            exact ⟨by first | rfl | simp | (simp; omega), (KS.out _ hcall.out).2.2⟩
        · rw [if_neg hlD] at hl
          have hN : (n9 : Int) = (n1 : Int) - 1 := by omega
          have hNa : ((n9 : Int) == (n1 : Int) - 1) = true := by simp [hN]
          have hNb : decide ((n9 : Int) = (n1 : Int) - 1) = true := decide_eq_true hN
          have hWa : IntKind.i64.wrap ((n1 : Int) - 1) = (n1 : Int) - 1 := by rw [IntKind.wrap_i64]; omega
          have hWb : wrap64 ((n1 : Int) - 1) = (n1 : Int) - 1 := by unfold wrap64; omega
          have hDa : (l2 == D0) = false := by simp [hlD]
          have hDb : decide (l2 = D0) = false := decide_eq_false hlD
          have hDc : (l2 != D0) = true := by simp [hlD]
          clear hl hN
          refine wp_region_held_drew (S := fun w' => w'.cell? ⟨A0, 0, none⟩ = some (.int .i64 D0) ∧ w'.cell? ⟨A0, 1, none⟩ = some ((.slice a0 n0 c0)) ∧ w'.cell? ⟨A1, 0, none⟩ = some (.int .i64 D0) ∧ w'.cell? ⟨A1, 1, none⟩ = some ((.slice a1 n1 c1))) (by kernel_rfl) (SC.out _ hcall.out) (fun hHeld => ?_)
          refine wpAnyH_take (i := 0) (oi := { dst := some 91, op := Op.load 24 (Operand.tmp 12), type := 24, pos := "law.go:147", after := #[], guard := none }) (v := ?vv53) rfl (by kernel_rfl) (by kernel_rfl) (by kernel_rfl) (fun _ _ _ h => h) (Or.inl ⟨by rfl, ?hy53⟩) hHeld ?rest53
          case hy53 => (intro wS hSw; (try dsimp only at hSw); go_simp; (try simp only [hNa, hNb, hWa, hWb, hDa, hDb, hDc, Bool.not_false]); try with_reducible rfl)
          simp only [Act.put, List.setIfInBounds_toArray, List.set_cons_zero, List.set_cons_succ]
          refine wpAnyH_take (i := 1) (oi := { dst := some 92, op := Op.move (Operand.tmp 9), type := 37, pos := "law.go:147", after := #[], guard := none }) (v := ?vv54) rfl (by kernel_rfl) (by kernel_rfl) (by kernel_rfl) (fun _ _ _ h => h) (Or.inl ⟨by rfl, ?hy54⟩) hHeld ?rest54
          case hy54 => (intro wS hSw; (try dsimp only at hSw); go_simp; (try simp only [hNa, hNb, hWa, hWb, hDa, hDb, hDc, Bool.not_false]); try with_reducible rfl)
          simp only [Act.put, List.setIfInBounds_toArray, List.set_cons_zero, List.set_cons_succ]
          refine wpAnyH_take (i := 2) (oi := { dst := some 93, op := Op.move (Operand.tmp 11), type := 3, pos := "law.go:147", after := #[], guard := none }) (v := ?vv55) rfl (by kernel_rfl) (by kernel_rfl) (by kernel_rfl) (fun _ _ _ h => h) (Or.inl ⟨by rfl, ?hy55⟩) hHeld ?rest55
          case hy55 => (intro wS hSw; (try dsimp only at hSw); go_simp; (try simp only [hNa, hNb, hWa, hWb, hDa, hDb, hDc, Bool.not_false]); try with_reducible rfl)
          simp only [Act.put, List.setIfInBounds_toArray, List.set_cons_zero, List.set_cons_succ]
          refine wpAnyH_take (i := 4) (oi := { dst := some 95, op := Op.load 24 (Operand.tmp 12), type := 24, pos := "law.go:147", after := #[], guard := none }) (v := ?vv56) rfl (by kernel_rfl) (by kernel_rfl) (by kernel_rfl) (fun _ _ _ h => h) (Or.inl ⟨by rfl, ?hy56⟩) hHeld ?rest56
          case hy56 => (intro wS hSw; (try dsimp only at hSw); go_simp; (try simp only [hNa, hNb, hWa, hWb, hDa, hDb, hDc, Bool.not_false]); try with_reducible rfl)
          simp only [Act.put, List.setIfInBounds_toArray, List.set_cons_zero, List.set_cons_succ]
          refine wpAnyH_ready (rs := [3]) (by kernel_rfl) (by simp) ?_
          refine AllReadyH.cons (o := { dst := some 94, op := Op.call { callee := Callee.value (Operand.func 25), args := #[Operand.tmp 91, Operand.tmp 92, Operand.tmp 93], argTypes := #[24, 37, 3] }, type := 24, pos := "law.go:147", after := #[{ on := 0, ground := Ground.data }, { on := 1, ground := Ground.data }, { on := 2, ground := Ground.data }], guard := none }) rfl (fun K hK => ?_) AllReadyH.nil
          go_simp
          with_reducible refine (P4.out _ _ (KS.out _ hcall.out).2.1.rc).mono ?_
          rintro e wq ⟨a8, n8, c8, rfl, ho, hb'⟩
          have R8 := Lib.hid (rc_of_owns ho (by omega))
          clear ho
          replace hcall := Lib.hid (hcall.out.trans (hb'.mono hcall.out.size))
          clear hb' hHeld
          try go_wp2_with fail
          refine hK.out _ _ (SC.out _ hcall.out) (fun hHeld => ?_)
          clear hK K
          try simp only [Act.put, List.setIfInBounds_toArray, List.set_cons_zero, List.set_cons_succ]
          refine wpAnyH_ready (rs := [5]) (by kernel_rfl) (by simp) ?_
          refine AllReadyH.cons (o := { dst := some 96, op := Op.call { callee := Callee.value (Operand.func 18), args := #[Operand.tmp 94, Operand.tmp 95], argTypes := #[24, 24] }, type := 4, pos := "law.go:147", after := #[{ on := 3, ground := Ground.data }, { on := 4, ground := Ground.data }, { on := 3, ground := Ground.chain }], guard := none }) rfl (fun K hK => ?_) AllReadyH.nil
          go_simp
          with_reducible refine (same_yes R8.out (KS.out _ hcall.out).2.1.rc ⟨rfl, rfl⟩).mono ?_
          rintro e wq ⟨rfl, hb'⟩
          replace hcall := Lib.hid (hcall.out.trans (hb'.mono hcall.out.size))
          clear hb' hHeld
          try go_wp2_with fail
          refine hK.out _ _ (SC.out _ hcall.out) (fun hHeld => ?_)
          clear hK K
          try simp only [Act.put, List.setIfInBounds_toArray, List.set_cons_zero, List.set_cons_succ]
          refine wpAnyH_take (i := 6) (oi := { dst := some 97, op := Op.move (Operand.tmp 96), type := 4, pos := "law.go:147", after := #[{ on := 5, ground := Ground.data }, { on := 5, ground := Ground.chain }], guard := none }) (v := ?vv57) rfl (by kernel_rfl) (by kernel_rfl) (by kernel_rfl) (fun _ _ _ h => h) (Or.inl ⟨by rfl, ?hy57⟩) hHeld ?rest57
          case hy57 => (intro wS hSw; (try dsimp only at hSw); go_simp; (try simp only [hNa, hNb, hWa, hWb, hDa, hDb, hDc, Bool.not_false]); try with_reducible rfl)
          simp only [Act.put, List.setIfInBounds_toArray, List.set_cons_zero, List.set_cons_succ]
          refine wpAnyH_take (i := 7) (oi := { dst := some 98, op := Op.move (Operand.tmp 11), type := 3, pos := "law.go:147", after := #[{ on := 6, ground := Ground.guard }], guard := some (6, true) }) (v := ?vv58) rfl (by kernel_rfl) (by kernel_rfl) (by kernel_rfl) (fun _ _ _ h => h) (Or.inl ⟨by rfl, ?hy58⟩) hHeld ?rest58
          case hy58 => (intro wS hSw; (try dsimp only at hSw); go_simp; (try simp only [hNa, hNb, hWa, hWb, hDa, hDb, hDc, Bool.not_false]); try with_reducible rfl)
          simp only [Act.put, List.setIfInBounds_toArray, List.set_cons_zero, List.set_cons_succ]
          refine wpAnyH_take (i := 8) (oi := { dst := some 99, op := Op.fieldAddr 24 (Operand.tmp 12) 0, type := 0, pos := "law.go:147", after := #[{ on := 6, ground := Ground.guard }], guard := some (6, true) }) (v := ?vv59) rfl (by kernel_rfl) (by kernel_rfl) (by kernel_rfl) (fun _ _ _ h => h) (Or.inl ⟨by rfl, ?hy59⟩) hHeld ?rest59
          case hy59 => (intro wS hSw; (try dsimp only at hSw); go_simp; (try simp only [hNa, hNb, hWa, hWb, hDa, hDb, hDc, Bool.not_false]); try with_reducible rfl)
          simp only [Act.put, List.setIfInBounds_toArray, List.set_cons_zero, List.set_cons_succ]
          refine wpAnyH_take (i := 9) (oi := { dst := some 100, op := Op.load 3 (Operand.tmp 99), type := 3, pos := "law.go:147", after := #[{ on := 8, ground := Ground.data }, { on := 6, ground := Ground.guard }], guard := some (6, true) }) (v := ?vv60) rfl (by kernel_rfl) (by kernel_rfl) (by kernel_rfl) (fun _ _ _ h => h) (Or.inl ⟨by rfl, ?hy60⟩) hHeld ?rest60
          case hy60 => (intro wS hSw; (try dsimp only at hSw); go_simp; (try simp only [hNa, hNb, hWa, hWb, hDa, hDb, hDc, Bool.not_false]); try with_reducible rfl)
          simp only [Act.put, List.setIfInBounds_toArray, List.set_cons_zero, List.set_cons_succ]
          refine wpAnyH_take (i := 10) (oi := { dst := some 101, op := Op.binOp BinOp.eql 3 (Operand.tmp 98) (Operand.tmp 100) 3, type := 4, pos := "law.go:147", after := #[{ on := 7, ground := Ground.data }, { on := 9, ground := Ground.data }, { on := 6, ground := Ground.guard }], guard := some (6, true) }) (v := ?vv61) rfl (by kernel_rfl) (by kernel_rfl) (by kernel_rfl) (fun _ _ _ h => h) (Or.inl ⟨by rfl, ?hy61⟩) hHeld ?rest61
          case hy61 => (intro wS hSw; (try dsimp only at hSw); go_simp; (try simp only [hNa, hNb, hWa, hWb, hDa, hDb, hDc, Bool.not_false]); try with_reducible rfl)
          simp only [Act.put, List.setIfInBounds_toArray, List.set_cons_zero, List.set_cons_succ]
          refine wpAnyH_take (i := 11) (oi := { dst := some 102, op := Op.move (Operand.tmp 101), type := 4, pos := "law.go:147", after := #[{ on := 10, ground := Ground.data }, { on := 6, ground := Ground.chain }, { on := 6, ground := Ground.guard }], guard := some (6, true) }) (v := ?vv62) rfl (by kernel_rfl) (by kernel_rfl) (by kernel_rfl) (fun _ _ _ h => h) (Or.inl ⟨by rfl, ?hy62⟩) hHeld ?rest62
          case hy62 => (intro wS hSw; (try dsimp only at hSw); go_simp; (try simp only [hNa, hNb, hWa, hWb, hDa, hDb, hDc, Bool.not_false]); try with_reducible rfl)
          simp only [Act.put, List.setIfInBounds_toArray, List.set_cons_zero, List.set_cons_succ]
          refine wpAnyH_take (i := 12) (oi := { dst := some 103, op := Op.move (Operand.tmp 14), type := 3, pos := "law.go:147", after := #[{ on := 11, ground := Ground.guard }], guard := some (11, true) }) (v := undef) rfl (by kernel_rfl) (by kernel_rfl) (by kernel_rfl) (fun _ _ _ h => h) (Or.inr ⟨by rfl, rfl⟩) hHeld ?_
          simp only [Act.put, List.setIfInBounds_toArray, List.set_cons_zero, List.set_cons_succ]
          refine wpAnyH_take (i := 13) (oi := { dst := some 104, op := Op.fieldAddr 24 (Operand.tmp 12) 1, type := 0, pos := "law.go:147", after := #[{ on := 11, ground := Ground.guard }], guard := some (11, true) }) (v := undef) rfl (by kernel_rfl) (by kernel_rfl) (by kernel_rfl) (fun _ _ _ h => h) (Or.inr ⟨by rfl, rfl⟩) hHeld ?_
          simp only [Act.put, List.setIfInBounds_toArray, List.set_cons_zero, List.set_cons_succ]
          refine wpAnyH_take (i := 14) (oi := { dst := some 105, op := Op.load 22 (Operand.tmp 104), type := 22, pos := "law.go:147", after := #[{ on := 13, ground := Ground.data }, { on := 11, ground := Ground.guard }], guard := some (11, true) }) (v := undef) rfl (by kernel_rfl) (by kernel_rfl) (by kernel_rfl) (fun _ _ _ h => h) (Or.inr ⟨by rfl, rfl⟩) hHeld ?_
          simp only [Act.put, List.setIfInBounds_toArray, List.set_cons_zero, List.set_cons_succ]
          refine wpAnyH_take (i := 15) (oi := { dst := some 106, op := Op.call { callee := Callee.builtin Builtin.len, args := #[Operand.tmp 105], argTypes := #[22] }, type := 3, pos := "law.go:147", after := #[{ on := 14, ground := Ground.data }, { on := 11, ground := Ground.guard }], guard := some (11, true) }) (v := undef) rfl (by kernel_rfl) (by kernel_rfl) (by kernel_rfl) (fun _ _ _ h => h) (Or.inr ⟨by rfl, rfl⟩) hHeld ?_
          simp only [Act.put, List.setIfInBounds_toArray, List.set_cons_zero, List.set_cons_succ]
          refine wpAnyH_take (i := 16) (oi := { dst := some 107, op := Op.binOp BinOp.eql 3 (Operand.tmp 103) (Operand.tmp 106) 3, type := 4, pos := "law.go:147", after := #[{ on := 12, ground := Ground.data }, { on := 15, ground := Ground.data }, { on := 11, ground := Ground.guard }], guard := some (11, true) }) (v := undef) rfl (by kernel_rfl) (by kernel_rfl) (by kernel_rfl) (fun _ _ _ h => h) (Or.inr ⟨by rfl, rfl⟩) hHeld ?_
          simp only [Act.put, List.setIfInBounds_toArray, List.set_cons_zero, List.set_cons_succ]
          refine wpAnyH_take (i := 17) (oi := { dst := some 108, op := Op.pick (Operand.tmp 102) (Operand.tmp 107) (Operand.const (Value.bool false)), type := 4, pos := "law.go:147", after := #[{ on := 11, ground := Ground.data }, { on := 16, ground := Ground.data }, { on := 6, ground := Ground.guard }], guard := some (6, true) }) (v := ?vv63) rfl (by kernel_rfl) (by kernel_rfl) (by kernel_rfl) (fun _ _ _ h => h) (Or.inl ⟨by rfl, ?hy63⟩) hHeld ?rest63
          case hy63 => (intro wS hSw; (try dsimp only at hSw); go_simp; (try simp only [hNa, hNb, hWa, hWb, hDa, hDb, hDc, Bool.not_false]); try with_reducible rfl)
          simp only [Act.put, List.setIfInBounds_toArray, List.set_cons_zero, List.set_cons_succ]
          refine wpAnyH_take (i := 18) (oi := { dst := some 109, op := Op.move (Operand.tmp 108), type := 4, pos := "law.go:147", after := #[{ on := 17, ground := Ground.data }, { on := 11, ground := Ground.chain }, { on := 6, ground := Ground.guard }], guard := some (6, true) }) (v := ?vv64) rfl (by kernel_rfl) (by kernel_rfl) (by kernel_rfl) (fun _ _ _ h => h) (Or.inl ⟨by rfl, ?hy64⟩) hHeld ?rest64
          case hy64 => (intro wS hSw; (try dsimp only at hSw); go_simp; (try simp only [hNa, hNb, hWa, hWb, hDa, hDb, hDc, Bool.not_false]); try with_reducible rfl)
          simp only [Act.put, List.setIfInBounds_toArray, List.set_cons_zero, List.set_cons_succ]
          refine wpAnyH_take (i := 19) (oi := { dst := some 110, op := Op.move (Operand.tmp 11), type := 3, pos := "law.go:147", after := #[{ on := 18, ground := Ground.guard }], guard := some (18, false) }) (v := ?vv65) rfl (by kernel_rfl) (by kernel_rfl) (by kernel_rfl) (fun _ _ _ h => h) (Or.inl ⟨by rfl, ?hy65⟩) hHeld ?rest65
          case hy65 => (intro wS hSw; (try dsimp only at hSw); go_simp; (try simp only [hNa, hNb, hWa, hWb, hDa, hDb, hDc, Bool.not_false]); try with_reducible rfl)
          simp only [Act.put, List.setIfInBounds_toArray, List.set_cons_zero, List.set_cons_succ]
          refine wpAnyH_take (i := 20) (oi := { dst := some 111, op := Op.fieldAddr 24 (Operand.tmp 12) 0, type := 0, pos := "law.go:147", after := #[{ on := 18, ground := Ground.guard }], guard := some (18, false) }) (v := ?vv66) rfl (by kernel_rfl) (by kernel_rfl) (by kernel_rfl) (fun _ _ _ h => h) (Or.inl ⟨by rfl, ?hy66⟩) hHeld ?rest66
          case hy66 => (intro wS hSw; (try dsimp only at hSw); go_simp; (try simp only [hNa, hNb, hWa, hWb, hDa, hDb, hDc, Bool.not_false]); try with_reducible rfl)
          simp only [Act.put, List.setIfInBounds_toArray, List.set_cons_zero, List.set_cons_succ]
          refine wpAnyH_take (i := 21) (oi := { dst := some 112, op := Op.load 3 (Operand.tmp 111), type := 3, pos := "law.go:147", after := #[{ on := 20, ground := Ground.data }, { on := 18, ground := Ground.guard }], guard := some (18, false) }) (v := ?vv67) rfl (by kernel_rfl) (by kernel_rfl) (by kernel_rfl) (fun _ _ _ h => h) (Or.inl ⟨by rfl, ?hy67⟩) hHeld ?rest67
          case hy67 => (intro wS hSw; (try dsimp only at hSw); go_simp; (try simp only [hNa, hNb, hWa, hWb, hDa, hDb, hDc, Bool.not_false]); try with_reducible rfl)
          simp only [Act.put, List.setIfInBounds_toArray, List.set_cons_zero, List.set_cons_succ]
          refine wpAnyH_take (i := 22) (oi := { dst := some 113, op := Op.binOp BinOp.neq 3 (Operand.tmp 110) (Operand.tmp 112) 3, type := 4, pos := "law.go:147", after := #[{ on := 19, ground := Ground.data }, { on := 21, ground := Ground.data }, { on := 18, ground := Ground.guard }], guard := some (18, false) }) (v := ?vv68) rfl (by kernel_rfl) (by kernel_rfl) (by kernel_rfl) (fun _ _ _ h => h) (Or.inl ⟨by rfl, ?hy68⟩) hHeld ?rest68
          case hy68 => (intro wS hSw; (try dsimp only at hSw); go_simp; (try simp only [hNa, hNb, hWa, hWb, hDa, hDb, hDc, Bool.not_false]); try with_reducible rfl)
          simp only [Act.put, List.setIfInBounds_toArray, List.set_cons_zero, List.set_cons_succ]
          refine wpAnyH_take (i := 23) (oi := { dst := some 114, op := Op.move (Operand.tmp 113), type := 4, pos := "law.go:147", after := #[{ on := 22, ground := Ground.data }, { on := 18, ground := Ground.chain }, { on := 18, ground := Ground.guard }], guard := some (18, false) }) (v := ?vv69) rfl (by kernel_rfl) (by kernel_rfl) (by kernel_rfl) (fun _ _ _ h => h) (Or.inl ⟨by rfl, ?hy69⟩) hHeld ?rest69
          case hy69 => (intro wS hSw; (try dsimp only at hSw); go_simp; (try simp only [hNa, hNb, hWa, hWb, hDa, hDb, hDc, Bool.not_false]); try with_reducible rfl)
          simp only [Act.put, List.setIfInBounds_toArray, List.set_cons_zero, List.set_cons_succ]
          refine wpAnyH_take (i := 24) (oi := { dst := some 115, op := Op.move (Operand.tmp 14), type := 3, pos := "law.go:147", after := #[{ on := 23, ground := Ground.guard }], guard := some (23, true) }) (v := ?vv70) rfl (by kernel_rfl) (by kernel_rfl) (by kernel_rfl) (fun _ _ _ h => h) (Or.inl ⟨by rfl, ?hy70⟩) hHeld ?rest70
          case hy70 => (intro wS hSw; (try dsimp only at hSw); go_simp; (try simp only [hNa, hNb, hWa, hWb, hDa, hDb, hDc, Bool.not_false]); try with_reducible rfl)
          simp only [Act.put, List.setIfInBounds_toArray, List.set_cons_zero, List.set_cons_succ]
          refine wpAnyH_take (i := 25) (oi := { dst := some 116, op := Op.fieldAddr 24 (Operand.tmp 12) 1, type := 0, pos := "law.go:147", after := #[{ on := 23, ground := Ground.guard }], guard := some (23, true) }) (v := ?vv71) rfl (by kernel_rfl) (by kernel_rfl) (by kernel_rfl) (fun _ _ _ h => h) (Or.inl ⟨by rfl, ?hy71⟩) hHeld ?rest71
          case hy71 => (intro wS hSw; (try dsimp only at hSw); go_simp; (try simp only [hNa, hNb, hWa, hWb, hDa, hDb, hDc, Bool.not_false]); try with_reducible rfl)
          simp only [Act.put, List.setIfInBounds_toArray, List.set_cons_zero, List.set_cons_succ]
          refine wpAnyH_take (i := 26) (oi := { dst := some 117, op := Op.load 22 (Operand.tmp 116), type := 22, pos := "law.go:147", after := #[{ on := 25, ground := Ground.data }, { on := 23, ground := Ground.guard }], guard := some (23, true) }) (v := ?vv72) rfl (by kernel_rfl) (by kernel_rfl) (by kernel_rfl) (fun _ _ _ h => h) (Or.inl ⟨by rfl, ?hy72⟩) hHeld ?rest72
          case hy72 => (intro wS hSw; (try dsimp only at hSw); go_simp; (try simp only [hNa, hNb, hWa, hWb, hDa, hDb, hDc, Bool.not_false]); try with_reducible rfl)
          simp only [Act.put, List.setIfInBounds_toArray, List.set_cons_zero, List.set_cons_succ]
          refine wpAnyH_take (i := 27) (oi := { dst := some 118, op := Op.call { callee := Callee.builtin Builtin.len, args := #[Operand.tmp 117], argTypes := #[22] }, type := 3, pos := "law.go:147", after := #[{ on := 26, ground := Ground.data }, { on := 23, ground := Ground.guard }], guard := some (23, true) }) (v := ?vv73) rfl (by kernel_rfl) (by kernel_rfl) (by kernel_rfl) (fun _ _ _ h => h) (Or.inl ⟨by rfl, ?hy73⟩) hHeld ?rest73
          case hy73 => (intro wS hSw; (try dsimp only at hSw); go_simp; (try simp only [hNa, hNb, hWa, hWb, hDa, hDb, hDc, Bool.not_false]); try with_reducible rfl)
          simp only [Act.put, List.setIfInBounds_toArray, List.set_cons_zero, List.set_cons_succ]
          refine wpAnyH_take (i := 28) (oi := { dst := some 119, op := Op.binOp BinOp.sub 3 (Operand.tmp 118) (Operand.const (Value.int IntKind.i64 1)) 3, type := 3, pos := "law.go:147", after := #[{ on := 27, ground := Ground.data }, { on := 23, ground := Ground.guard }], guard := some (23, true) }) (v := ?vv74) rfl (by kernel_rfl) (by kernel_rfl) (by kernel_rfl) (fun _ _ _ h => h) (Or.inl ⟨by rfl, ?hy74⟩) hHeld ?rest74
          case hy74 => (intro wS hSw; (try dsimp only at hSw); go_simp; (try simp only [hNa, hNb, hWa, hWb, hDa, hDb, hDc, Bool.not_false]); try with_reducible rfl)
          simp only [Act.put, List.setIfInBounds_toArray, List.set_cons_zero, List.set_cons_succ]
          refine wpAnyH_take (i := 29) (oi := { dst := some 120, op := Op.binOp BinOp.eql 3 (Operand.tmp 115) (Operand.tmp 119) 3, type := 4, pos := "law.go:147", after := #[{ on := 24, ground := Ground.data }, { on := 28, ground := Ground.data }, { on := 23, ground := Ground.guard }], guard := some (23, true) }) (v := ?vv75) rfl (by kernel_rfl) (by kernel_rfl) (by kernel_rfl) (fun _ _ _ h => h) (Or.inl ⟨by rfl, ?hy75⟩) hHeld ?rest75
          case hy75 => (intro wS hSw; (try dsimp only at hSw); go_simp; (try simp only [hNa, hNb, hWa, hWb, hDa, hDb, hDc, Bool.not_false]); try with_reducible rfl)
          simp only [Act.put, List.setIfInBounds_toArray, List.set_cons_zero, List.set_cons_succ]
          refine wpAnyH_take (i := 30) (oi := { dst := some 121, op := Op.pick (Operand.tmp 114) (Operand.tmp 120) (Operand.const (Value.bool false)), type := 4, pos := "law.go:147", after := #[{ on := 23, ground := Ground.data }, { on := 29, ground := Ground.data }, { on := 18, ground := Ground.guard }], guard := some (18, false) }) (v := ?vv76) rfl (by kernel_rfl) (by kernel_rfl) (by kernel_rfl) (fun _ _ _ h => h) (Or.inl ⟨by rfl, ?hy76⟩) hHeld ?rest76
          case hy76 => (intro wS hSw; (try dsimp only at hSw); go_simp; (try simp only [hNa, hNb, hWa, hWb, hDa, hDb, hDc, Bool.not_false]); try with_reducible rfl)
          simp only [Act.put, List.setIfInBounds_toArray, List.set_cons_zero, List.set_cons_succ]
          refine wpAnyH_take (i := 31) (oi := { dst := some 122, op := Op.pick (Operand.tmp 109) (Operand.const (Value.bool true)) (Operand.tmp 121), type := 4, pos := "law.go:147", after := #[{ on := 18, ground := Ground.data }, { on := 30, ground := Ground.data }, { on := 6, ground := Ground.guard }], guard := some (6, true) }) (v := ?vv77) rfl (by kernel_rfl) (by kernel_rfl) (by kernel_rfl) (fun _ _ _ h => h) (Or.inl ⟨by rfl, ?hy77⟩) hHeld ?rest77
          case hy77 => (intro wS hSw; (try dsimp only at hSw); go_simp; (try simp only [hNa, hNb, hWa, hWb, hDa, hDb, hDc, Bool.not_false]); try with_reducible rfl)
          simp only [Act.put, List.setIfInBounds_toArray, List.set_cons_zero, List.set_cons_succ]
          refine wpAnyH_take (i := 32) (oi := { dst := some 123, op := Op.pick (Operand.tmp 97) (Operand.tmp 122) (Operand.const (Value.bool false)), type := 4, pos := "law.go:147", after := #[{ on := 6, ground := Ground.data }, { on := 31, ground := Ground.data }], guard := none }) (v := ?vv78) rfl (by kernel_rfl) (by kernel_rfl) (by kernel_rfl) (fun _ _ _ h => h) (Or.inl ⟨by rfl, ?hy78⟩) hHeld ?rest78
          case hy78 => (intro wS hSw; (try dsimp only at hSw); go_simp; (try simp only [hNa, hNb, hWa, hWb, hDa, hDb, hDc, Bool.not_false]); try with_reducible rfl)
          simp only [Act.put, List.setIfInBounds_toArray, List.set_cons_zero, List.set_cons_succ]
          refine wpAnyH_take (i := 33) (oi := { dst := some 6, op := Op.assign (Operand.tmp 123), type := 4, pos := "law.go:147", after := #[{ on := 32, ground := Ground.data }, { on := 23, ground := Ground.chain }, { on := 0, ground := Ground.phase }, { on := 1, ground := Ground.phase }, { on := 2, ground := Ground.phase }, { on := 3, ground := Ground.phase }, { on := 4, ground := Ground.phase }, { on := 5, ground := Ground.phase }, { on := 6, ground := Ground.phase }, { on := 7, ground := Ground.phase }, { on := 8, ground := Ground.phase }, { on := 9, ground := Ground.phase }, { on := 10, ground := Ground.phase }, { on := 11, ground := Ground.phase }, { on := 12, ground := Ground.phase }, { on := 13, ground := Ground.phase }, { on := 14, ground := Ground.phase }, { on := 15, ground := Ground.phase }, { on := 16, ground := Ground.phase }, { on := 17, ground := Ground.phase }, { on := 18, ground := Ground.phase }, { on := 19, ground := Ground.phase }, { on := 20, ground := Ground.phase }, { on := 21, ground := Ground.phase }, { on := 22, ground := Ground.phase }, { on := 23, ground := Ground.phase }, { on := 24, ground := Ground.phase }, { on := 25, ground := Ground.phase }, { on := 26, ground := Ground.phase }, { on := 27, ground := Ground.phase }, { on := 28, ground := Ground.phase }, { on := 29, ground := Ground.phase }, { on := 30, ground := Ground.phase }, { on := 31, ground := Ground.phase }, { on := 32, ground := Ground.phase }], guard := none }) (v := ?vv79) rfl (by kernel_rfl) (by kernel_rfl) (by kernel_rfl) (fun _ _ _ h => h) (Or.inl ⟨by rfl, ?hy79⟩) hHeld ?rest79
          case hy79 => (intro wS hSw; (try dsimp only at hSw); go_simp; (try simp only [hNa, hNb, hWa, hWb, hDa, hDb, hDc, Bool.not_false]); try with_reducible rfl)
          simp only [Act.put, List.setIfInBounds_toArray, List.set_cons_zero, List.set_cons_succ]
          refine wpAnyH_done (by kernel_rfl) ?_ _
          all_goals
            go_wp2_with fail
            go_ret
            exact ⟨by first | rfl | simp | (simp; omega), (KS.out _ hcall.out).2.2⟩
end Go.Proofs.Ytlkhbbdigljpjaa
