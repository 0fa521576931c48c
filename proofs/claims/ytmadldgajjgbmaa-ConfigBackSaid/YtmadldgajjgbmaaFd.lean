/- config.Encode. -/
import Derived.Test.YtmadldgajjgbmaaFc
set_option linter.unusedVariables false
set_option linter.unusedSimpArgs false
namespace Go.Proofs.Ytmadldgajjgbmaa
open Go.RowKit
set_option linter.unusedVariables false
set_option linter.unusedSimpArgs false
/-- A configuration's bytes in memory. -/
def EncE (W : World) (bs : List Nat) (e : Ending) (w' : World) : Prop := ∃ a c, e = .returned (.slice a bs.length c) ∧ RW (fun b => W.heap.size ≤ b) 5 inB w' (.slice a bs.length c) bs ∧ (∀ x ∈ bs, x < 256) ∧ Below W.heap.size W w'
set_option maxHeartbeats 4000000 in
set_option maxRecDepth 100000 in
theorem encode_any {W : World} {co fr nm : Int} {A1 A2 : Option Addr} {l1 l2 c1 c2 : Nat} {xs : List Sl} {ovs : List Ov} (h : CfR W A1 A2 l1 l2 xs ovs) (hN : CfN co fr nm xs (ovs.map Ov.m)) (hb : (encCf co fr nm xs (ovs.map Ov.m)).length ≤ 100000) :
    Calls Try.prog 12 #[.agg #[.int .i64 co, .int .i64 fr, .int .i64 nm, .slice A1 l1 c1, .slice A2 l2 c2]] W (EncE W (encCf co fr nm xs (ovs.map Ov.m))) := by
  obtain ⟨os, eos⟩ : ∃ os, ovs.map Ov.m = os := ⟨_, rfl⟩
  have HOS := Lib.hid (show os.length = l2 ∧ ∀ (k : Nat) (o : Ov), ovs[k]? = some o → os[k]? = some o.m from ⟨by rw [← eos, List.length_map]; exact h.n2.1, fun k o hk => by rw [← eos, List.getElem?_map, hk]; rfl⟩)
  rw [eos] at hN hb
  rw [eos]
  obtain ⟨w0, e0⟩ : ∃ w0, W.alloc (Obj.cells #[.int .i64 co, .int .i64 fr, .int .i64 nm, .slice A1 l1 c1, .slice A2 l2 c2] 29) = w0 := ⟨_, rfl⟩
  obtain ⟨P, eP⟩ : ∃ P, W.heap.size = P := ⟨_, rfl⟩
  have hP0 : w0.heap[P]? = some (Obj.cells #[.int .i64 co, .int .i64 fr, .int .i64 nm, .slice A1 l1 c1, .slice A2 l2 c2] 29) := by rw [← e0, ← eP]; exact heap_alloc_new W _
  have hb0 : Below W.heap.size W w0 := by rw [← e0]; exact below_alloc1 W _
  obtain ⟨w1, e1⟩ : ∃ w1, w0.alloc (Obj.cells #[.slice none 0 0] 70) = w1 := ⟨_, rfl⟩
  obtain ⟨WB, eWB⟩ : ∃ WB, w0.heap.size = WB := ⟨_, rfl⟩
  have hPW : P + 1 = WB := by rw [← eWB, ← e0, ← eP]; simp
  have hb1 : Below w0.heap.size w0 w1 := by rw [← e1]; exact below_alloc1 w0 _
  have hP1 := (hb1.block _ (Array.getElem?_eq_some_iff.1 hP0).1).trans hP0
  have hW1 : w1.heap[WB]? = some (Obj.cells #[.slice none 0 0] 70) := by rw [← e1, ← eWB]; exact heap_alloc_new w0 _
  have hB01 : Below W.heap.size W w1 := hb0.trans (hb1.mono hb0.size)
  have HS := Lib.hid (show WS W W.heap.size WB w1 [] w1 from ⟨⟨none, 0, hW1, RW.nil _ _, by simp⟩, KW.refl _ _, by rw [← eWB]; exact hb0.size, hB01.size, hB01, Nat.le_refl _⟩)
  have hc := fun (al' : List Nat) (w' : World) (hw : WS W W.heap.size WB w1 al' w') => hw.cell hP1 (by decide) (by decide)
  have HC := Lib.hid hc
  have HH := Lib.hid h
  have HN := Lib.hid hN
  have hl := hb
  unfold encCf at hl
  simp only [List.length_append, Pk.enc_len] at hl
  have HL := Lib.hid hl
  have hsl : ∀ l : List Sl, (l.flatMap encSlt).length = 2 * l.length := by
    intro l
    induction l with
    | nil => rfl
    | cons y r ih => rw [List.flatMap_cons, List.length_append, ih, List.length_cons]; simp [encSlt, Pk.enc_len]; omega
  have HSL := Lib.hid hsl
  have hn1 := h.n1.2
  have hn2 := h.n2.2
  have HN1 := Lib.hid (And.intro hn1 hn2)
  clear h hN hb hP0 hb0 hb1 hP1 hW1 hB01 hc hl hsl eos hn1 hn2
  go_enter Try.func12, Try.ntmps12
  go_upto_region 2 with fail
  try rw [e0]
  try rw [eP]
  try rw [hPW]
  try rw [e1]
  clear e0 e1 eP eWB hPW
  have x0 := HC.out _ _ HS.out 0 (.int .i64 co) rfl
  have C := Lib.hid (HS.out.one (n := 1) (x := co) (by have := HN.out.c; omega) (by omega) (by have := HL.out; simp only [List.length_append, Pk.enc_len, List.length_nil]; omega))
  go_wp2_with fail
  refine C.out.mono ?_; rintro e w2 ⟨rfl, hs⟩
  have HS2 := Lib.hid hs
  clear hs C HS x0 
  have x1 := HC.out _ _ HS2.out 1 (.int .i64 fr) rfl
  have C := Lib.hid (HS2.out.one (n := 2) (x := fr) (by have := HN.out.f; omega) (by omega) (by have := HL.out; simp only [List.length_append, Pk.enc_len, List.length_nil]; omega))
  go_wp2_with fail
  refine C.out.mono ?_; rintro e w3 ⟨rfl, hs⟩
  have HS3 := Lib.hid hs
  clear hs C HS2 x1 
  have x2 := HC.out _ _ HS3.out 2 (.int .i64 nm) rfl
  have C := Lib.hid (HS3.out.one (n := 4) (x := nm) (by have := HN.out.n; omega) (by omega) (by have := HL.out; simp only [List.length_append, Pk.enc_len, List.length_nil]; omega))
  go_wp2_with fail
  refine C.out.mono ?_; rintro e w4 ⟨rfl, hs⟩
  have HS4 := Lib.hid hs
  clear hs C HS3 x2 
  have x3 := HC.out _ _ HS4.out 3 (.slice A1 l1 c1) rfl
  have C := Lib.hid (HS4.out.one (n := 1) (x := (l1 : Int)) (by have := HN1.out.1; omega) (by omega) (by have := HL.out; simp only [List.length_append, Pk.enc_len, List.length_nil]; omega))
  go_wp2_with fail
  refine C.out.mono ?_; rintro e w5 ⟨rfl, hs⟩
  have HS5 := Lib.hid hs
  clear hs C HS4 x3 
  obtain ⟨a5, ea5⟩ : ∃ a5, [] ++ Pk.enc 1 co.toNat ++ Pk.enc 2 fr.toNat ++ Pk.enc 4 nm.toNat ++ Pk.enc 1 (l1 : Int).toNat = a5 := ⟨_, rfl⟩
  rw [ea5] at HS5
  have h5 : a5.length = 8 := by rw [← ea5]; simp only [List.length_append, Pk.enc_len, List.length_nil]
  have H5 := Lib.hid (And.intro ea5 h5)
  clear ea5 h5
  have x3 := HC.out _ _ HS5.out 3 (.slice A1 l1 c1) rfl
  go_wp2_with fail
  go_loopg [28] l1 (fun gh vi wr => ∃ k : Nat, k ≤ l1 ∧ l1 - k ≤ gh ∧ vi = .int .i64 k ∧ Hid (WS W W.heap.size WB w1 (a5 ++ (xs.take k).flatMap encSlt) wr))
  case atStart => exact ⟨0, by omega, by omega, rfl, by simpa using HS5⟩
  case round =>
    obtain ⟨k, hk, hg, rfl, hI⟩ := hrel
    clear HS5 x3
    by_cases hlt : k < l1
    · obtain ⟨x, hx⟩ : ∃ x, xs[k]? = some x := ⟨_, List.getElem?_eq_getElem (by rw [HH.out.n1.1]; exact hlt)⟩
      have hr := HH.out.r1.below hI.out.base
      obtain ⟨b, off, rfl⟩ := hr.some_ (by have := HH.out.n1.1; omega)
      have k0 := hr.at_ (j := 0) hx (u := inU x.ct) rfl
      rw [Nat.add_zero] at k0
      have k1 := hr.at_ (j := 1) hx (u := .int .i64 x.tk) rfl
      unfold inU at k0
      have hxr := HN.out.x x (List.mem_of_getElem? hx)
      have l1' : (k : Int) < l1 := by omega
      have iw : IntKind.i64.wrap ((k : Int) + 1) = ((k + 1 : Nat) : Int) := by have := HN1.out.1; rw [IntKind.wrap_i64]; omega
      have is : IntKind.i64.wrap (x.ct : Int) = (x.ct : Int) := by have := hxr.1; rw [IntKind.wrap_i64]; omega
      obtain ⟨wr0, er⟩ : ∃ wr0, wr.alloc (Obj.cells #[.int .u64 (x.ct : Int), .int .i64 x.tk] 49) = wr0 := ⟨_, rfl⟩
      obtain ⟨Y, eY⟩ : ∃ Y, wr.heap.size = Y := ⟨_, rfl⟩
      have hY : wr0.heap[Y]? = some (Obj.cells #[.int .u64 (x.ct : Int), .int .i64 x.tk] 49) := by rw [← er, ← eY]; exact heap_alloc_new wr _
      have h1 := hI.out.box (cs := #[.int .u64 (x.ct : Int), .int .i64 x.tk]) (u := 49)
      have h2 := fun (al' : List Nat) (w' : World) => hI.out.unbox (cs := #[.int .u64 (x.ct : Int), .int .i64 x.tk]) (u := 49) (al' := al') (w' := w')
      rw [er] at h1 h2
      have HUk := Lib.hid h2
      have f0 := h1.cell hY (by decide) (by decide) 0 (.int .u64 (x.ct : Int)) rfl
      have f1 := h1.cell hY (by decide) (by decide) 1 (.int .i64 x.tk) rfl
      have htk : xs.take (k + 1) = xs.take k ++ [x] := by rw [List.take_add_one, hx]; rfl
      have hln : (a5 ++ (xs.take k).flatMap encSlt).length + 2 ≤ 100000 := by
        have h7 : (xs.take k).length ≤ k := List.length_take_le _ _
        have h8 := HH.out.n1.1
        have h9 := HL.out
        have h10 := H5.out.2
        rw [HSL.out] at h9
        rw [List.length_append, HSL.out]
        omega
      have C := Lib.hid (h1.two (n := 1) (x := (x.ct : Int)) (y := x.tk) (by omega) (by omega) (by omega) hln)
      have HG := Lib.hid (And.intro hg (And.intro hlt htk))
      clear hx hr hxr hY h1 h2 htk hln hg hlt
      go_upto_region 9 with fail
      try rw [er]
      try rw [eY]
      clear er eY k0 k1
      go_wp2_with fail
      refine C.out.mono ?_; rintro e w6 ⟨rfl, hs⟩
      have HE := Lib.hid (show WS W W.heap.size WB w1 (a5 ++ (xs.take (k + 1)).flatMap encSlt) w6 from by
        have h3 := HUk.out _ _ hs
        rw [HG.out.2.2, List.flatMap_append, ← List.append_assoc]
        rw [Int.toNat_natCast] at h3
        have e2 : [x].flatMap encSlt = encSlt x := by simp
        rw [e2]
        exact h3)
      clear hs C f0 f1 HUk
      go_wp2_with fail
      go_roundg (l1 - (k + 1))
      case rel => exact ⟨k + 1, HG.out.2.1, Nat.le_refl _, by first | rfl | simp, HE⟩
      case measure => have := HG.out; omega
    have l1' : ¬ (k : Int) < l1 := by omega
    have HS6 := Lib.hid (show WS W W.heap.size WB w1 (a5 ++ xs.flatMap encSlt) wr from by
      have h1 := hI.out
      rw [List.take_of_length_le (by have := HH.out.n1.1; omega)] at h1
      exact h1)
    clear hI hg hlt hk
    have x4 := HC.out _ _ HS6.out 4 (.slice A2 l2 c2) rfl
    have C := Lib.hid (HS6.out.one (n := 1) (x := (l2 : Int)) (by have := HN1.out.2; omega) (by omega) (by
      have h9 := HL.out
      have h10 := H5.out.2
      rw [HSL.out] at h9
      rw [List.length_append, HSL.out]
      omega))
    go_wp2_with fail
    refine C.out.mono ?_; rintro e w7 ⟨rfl, hs⟩
    have HS7 := Lib.hid hs
    clear hs C HS6 x4
    obtain ⟨a7, ea7⟩ : ∃ a7, a5 ++ xs.flatMap encSlt ++ Pk.enc 1 (l2 : Int).toNat = a7 := ⟨_, rfl⟩
    rw [ea7] at HS7
    have H7 := Lib.hid ea7
    have h7 : a7.length + (os.flatMap encOm).length ≤ 100000 := by
      have h9 := HL.out
      have h10 := H5.out.2
      rw [HSL.out] at h9
      rw [← ea7]
      simp only [List.length_append, HSL.out, Pk.enc_len]
      omega
    have HL7 := Lib.hid h7
    clear ea7 h7
    have x4 := HC.out _ _ HS7.out 4 (.slice A2 l2 c2) rfl
    go_wp2_with fail
    go_loopg [48] l2 (fun gh vi wr => ∃ k : Nat, k ≤ l2 ∧ l2 - k ≤ gh ∧ vi = .int .i64 k ∧ Hid (WS W W.heap.size WB w1 (a7 ++ (os.take k).flatMap encOm) wr))
    case atStart => exact ⟨0, by omega, by omega, rfl, by simpa using HS7⟩
    case round =>
      obtain ⟨k2, hk, hg, rfl, hI⟩ := hrel
      clear HS7 x4
      by_cases hlt : k2 < l2
      · obtain ⟨o, hx⟩ : ∃ x, ovs[k2]? = some x := ⟨_, List.getElem?_eq_getElem (by rw [HH.out.n2.1]; exact hlt)⟩
        have hox := HOS.out.2 k2 o hx
        have hr := HH.out.r2.below hI.out.base
        obtain ⟨b, off, rfl⟩ := hr.some_ (by have := HH.out.n2.1; omega)
        have k0 := hr.at_ (j := 0) hx (u := .int .i64 o.m.kd) rfl
        rw [Nat.add_zero] at k0
        have k1' := hr.at_ (j := 1) hx (u := .int .i64 o.m.pa) rfl
        have k2' := hr.at_ (j := 2) hx (u := .int .i64 o.m.lD) rfl
        have k3 := hr.at_ (j := 3) hx (u := .slice o.lv.a o.lv.n o.lv.c) rfl
        have k4 := hr.at_ (j := 4) hx (u := .int .i64 o.m.cD) rfl
        have k5 := hr.at_ (j := 5) hx (u := .slice o.cv.a o.cv.n o.cv.c) rfl
        have k6 := hr.at_ (j := 6) hx (u := .int .i64 o.m.pg) rfl
        have k7 := hr.at_ (j := 7) hx (u := .int .i64 o.m.nm) rfl
        have k8 := hr.at_ (j := 8) hx (u := .slice o.dv.a o.dv.n o.dv.c) rfl
        have k9 := hr.at_ (j := 9) hx (u := .slice o.mv.a o.mv.n o.mv.c) rfl
        have k10 := hr.at_ (j := 10) hx (u := .int .i64 o.m.sp) rfl
        have k11 := hr.at_ (j := 11) hx (u := .int .i64 o.m.pc) rfl
        have l2' : (k2 : Int) < l2 := by omega
        have iw : IntKind.i64.wrap ((k2 : Int) + 1) = ((k2 + 1 : Nat) : Int) := by have := HN1.out.2; rw [IntKind.wrap_i64]; omega
        obtain ⟨wr0, er⟩ : ∃ wr0, wr.alloc (Obj.cells #[.int .i64 o.m.kd, .int .i64 o.m.pa, .int .i64 o.m.lD, .slice o.lv.a o.lv.n o.lv.c, .int .i64 o.m.cD, .slice o.cv.a o.cv.n o.cv.c, .int .i64 o.m.pg, .int .i64 o.m.nm, .slice o.dv.a o.dv.n o.dv.c, .slice o.mv.a o.mv.n o.mv.c, .int .i64 o.m.sp, .int .i64 o.m.pc] 44) = wr0 := ⟨_, rfl⟩
        obtain ⟨Y, eY⟩ : ∃ Y, wr.heap.size = Y := ⟨_, rfl⟩
        have hY : wr0.heap[Y]? = some (Obj.cells #[.int .i64 o.m.kd, .int .i64 o.m.pa, .int .i64 o.m.lD, .slice o.lv.a o.lv.n o.lv.c, .int .i64 o.m.cD, .slice o.cv.a o.cv.n o.cv.c, .int .i64 o.m.pg, .int .i64 o.m.nm, .slice o.dv.a o.dv.n o.dv.c, .slice o.mv.a o.mv.n o.mv.c, .int .i64 o.m.sp, .int .i64 o.m.pc] 44) := by rw [← er, ← eY]; exact heap_alloc_new wr _
        have h1 := hI.out.box (cs := #[.int .i64 o.m.kd, .int .i64 o.m.pa, .int .i64 o.m.lD, .slice o.lv.a o.lv.n o.lv.c, .int .i64 o.m.cD, .slice o.cv.a o.cv.n o.cv.c, .int .i64 o.m.pg, .int .i64 o.m.nm, .slice o.dv.a o.dv.n o.dv.c, .slice o.mv.a o.mv.n o.mv.c, .int .i64 o.m.sp, .int .i64 o.m.pc]) (u := 44)
        have h2 := fun (al' : List Nat) (w' : World) => hI.out.unbox (cs := #[.int .i64 o.m.kd, .int .i64 o.m.pa, .int .i64 o.m.lD, .slice o.lv.a o.lv.n o.lv.c, .int .i64 o.m.cD, .slice o.cv.a o.cv.n o.cv.c, .int .i64 o.m.pg, .int .i64 o.m.nm, .slice o.dv.a o.dv.n o.dv.c, .slice o.mv.a o.mv.n o.mv.c, .int .i64 o.m.sp, .int .i64 o.m.pc]) (u := 44) (al' := al') (w' := w')
        rw [er] at h1 h2
        have HUk := Lib.hid h2
        have f0 := h1.cell hY (by decide) (by decide) 0 (.int .i64 o.m.kd) rfl
        have f1 := h1.cell hY (by decide) (by decide) 1 (.int .i64 o.m.pa) rfl
        have f2 := h1.cell hY (by decide) (by decide) 2 (.int .i64 o.m.lD) rfl
        have f3 := h1.cell hY (by decide) (by decide) 3 (.slice o.lv.a o.lv.n o.lv.c) rfl
        have f4 := h1.cell hY (by decide) (by decide) 4 (.int .i64 o.m.cD) rfl
        have f5 := h1.cell hY (by decide) (by decide) 5 (.slice o.cv.a o.cv.n o.cv.c) rfl
        have f6 := h1.cell hY (by decide) (by decide) 6 (.int .i64 o.m.pg) rfl
        have f7 := h1.cell hY (by decide) (by decide) 7 (.int .i64 o.m.nm) rfl
        have f8 := h1.cell hY (by decide) (by decide) 8 (.slice o.dv.a o.dv.n o.dv.c) rfl
        have f9 := h1.cell hY (by decide) (by decide) 9 (.slice o.mv.a o.mv.n o.mv.c) rfl
        have f10 := h1.cell hY (by decide) (by decide) 10 (.int .i64 o.m.sp) rfl
        have f11 := h1.cell hY (by decide) (by decide) 11 (.int .i64 o.m.pc) rfl
        have htk : os.take (k2 + 1) = os.take k2 ++ [o.m] := by rw [List.take_add_one, hox]; rfl
        have hln : (a7 ++ (os.take k2).flatMap encOm).length + (encOm o.m).length ≤ 100000 := by
          have h8 : ((os.take (k2 + 1)).flatMap encOm).length ≤ (os.flatMap encOm).length := by
            have h9 : os.flatMap encOm = (os.take (k2 + 1)).flatMap encOm ++ (os.drop (k2 + 1)).flatMap encOm := by rw [← List.flatMap_append, List.take_append_drop]
            rw [h9, List.length_append]
            omega
          have h9 := HL7.out
          rw [htk, List.flatMap_append, List.length_append] at h8
          have e2 : [o.m].flatMap encOm = encOm o.m := by simp
          rw [e2] at h8
          rw [List.length_append]
          omega
        have CC := wobj_any h1 (HH.out.o2 o (List.mem_of_getElem? hx)) (HN.out.o o.m (List.mem_of_getElem? hox)).1 hln
        unfold arO at CC
        try simp only at CC
        have C := Lib.hid CC
        have HG := Lib.hid (And.intro hg (And.intro hlt htk))
        clear hx hox hr hY h1 h2 htk hln hg hlt CC
        go_upto_region 15 with fail
        try rw [er]
        try rw [eY]
        clear er eY k0 k1' k2' k3 k4 k5 k6 k7 k8 k9 k10 k11
        go_wp2_with fail
        refine C.out.mono ?_; rintro e w8 ⟨rfl, hs⟩
        have HE := Lib.hid (show WS W W.heap.size WB w1 (a7 ++ (os.take (k2 + 1)).flatMap encOm) w8 from by
          have h3 := HUk.out _ _ hs
          rw [HG.out.2.2, List.flatMap_append, ← List.append_assoc]
          have e2 : [o.m].flatMap encOm = encOm o.m := by simp
          rw [e2]
          exact h3)
        clear hs C HUk f0 f1 f2 f3 f4 f5 f6 f7 f8 f9 f10 f11
        go_wp2_with fail
        go_roundg (l2 - (k2 + 1))
        case rel => exact ⟨k2 + 1, HG.out.2.1, Nat.le_refl _, by first | rfl | simp, HE⟩
        case measure => have := HG.out; omega
      have l2' : ¬ (k2 : Int) < l2 := by omega
      have HS8 := Lib.hid (show WS W W.heap.size WB w1 (encCf co fr nm xs os) wr from by
        have h1 := hI.out
        rw [List.take_of_length_le (by have := HOS.out.1; omega), ← H7.out, ← H5.out.1] at h1
        rw [Int.toNat_natCast, Int.toNat_natCast, ← HH.out.n1.1, ← HOS.out.1] at h1
        simpa [encCf, List.append_assoc] using h1)
      clear hI hg hlt hk
      obtain ⟨aw, cw, hwb, hrw, h256⟩ := HS8.out.wr
      have y0 : wr.cell? ⟨WB, 0, none⟩ = some (.slice aw (encCf co fr nm xs os).length cw) := by rw [cell_of_row _ _ _ _ _ (0, 0) hwb]; rfl
      have HF := Lib.hid (And.intro hrw (And.intro h256 HS8.out.base))
      clear hwb hrw h256
      go_wp2_with fail
      go_ret
      exact ⟨aw, cw, rfl, HF.out⟩
end Go.Proofs.Ytmadldgajjgbmaa
