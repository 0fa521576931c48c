/- config.rightObjects, Right. -/
import Derived.Test.YtmadldgajjgbmaaDd
set_option linter.unusedVariables false
set_option linter.unusedSimpArgs false
namespace Go.Proofs.Ytmadldgajjgbmaa
open Go.RowKit
set_option linter.unusedVariables false
set_option linter.unusedSimpArgs false
def objsR (os : List Om) : Bool := decide (os.length ≤ 64) && objsB os 0 os
set_option maxHeartbeats 4000000 in
set_option maxRecDepth 100000 in
theorem robjs_any {W : World} {A : Option Addr} {l c : Nat} {ovs : List Ov} (hl : ovs.length = l) (hc : l ≤ c) (hb : l ≤ 100000) (hr : LV 12 encO W A ovs) (hd : ∀ o ∈ ovs, o.Rd W) :
    Calls Try.prog 20 #[.slice A l c] W (BB W (objsR (ovs.map Ov.m))) := by
  have hosl : (ovs.map Ov.m).length = l := by rw [List.length_map]; exact hl
  by_cases h64 : 64 < l
  · have n8 : (l : Int) > 64 := by omega
    have n8' : (64 : Int) < l := by omega
    rw [show objsR (ovs.map Ov.m) = false by unfold objsR; rw [hosl, decide_eq_false (by omega)]; rfl]
    clear hl hr hd hosl
    go_enter Try.func20, Try.ntmps20
    go_wp2_with fail
    go_ret
    exact ⟨rfl, Below.refl _ _⟩
  have n8 : ¬ (l : Int) > 64 := by omega
  have n8' : ¬ (64 : Int) < l := by omega
  obtain ⟨os, eos⟩ : ∃ os, ovs.map Ov.m = os := ⟨_, rfl⟩
  have HP := Lib.hid (And.intro hl (And.intro hc (And.intro hr hd)))
  have HOS := Lib.hid (show os.length = l ∧ ∀ (k : Nat) (o : Ov), ovs[k]? = some o → os[k]? = some o.m from ⟨by rw [← eos]; exact hosl, fun k o hk => by rw [← eos, List.getElem?_map, hk]; rfl⟩)
  have HX := Lib.hid (show objsR (ovs.map Ov.m) = objsB os 0 os by unfold objsR; rw [hosl, decide_eq_true (by omega), eos]; rfl)
  have HM := Lib.hid eos
  rw [HX.out]
  clear hl hr hd hosl eos HX
  go_enter Try.func20, Try.ntmps20
  go_wp2_with fail
  go_loopg [10] l (fun gh vi wr => ∃ k : Nat, k ≤ l ∧ l - k ≤ gh ∧ vi = .int .i64 k ∧ Hid (objsB os 0 os = objsB os k (os.drop k) ∧ Below W.heap.size W wr))
  case atStart => exact ⟨0, by omega, by omega, rfl, Lib.hid ⟨rfl, Below.refl _ _⟩⟩
  case round =>
    obtain ⟨k, hk, hg, rfl, hI⟩ := hrel
    by_cases hlt : k < l
    · obtain ⟨o, hx⟩ : ∃ x, ovs[k]? = some x := ⟨_, List.getElem?_eq_getElem (by rw [HP.out.1]; exact hlt)⟩
      have hox := HOS.out.2 k o hx
      have hdr : os.drop k = o.m :: os.drop (k + 1) := by
        obtain ⟨h1, h2⟩ := List.getElem?_eq_some_iff.1 hox
        rw [← h2]; exact (List.getElem_cons_drop h1).symm
      have hr := HP.out.2.2.1.below hI.out.2
      have hod := (HP.out.2.2.2 o (List.mem_of_getElem? hx)).below hI.out.2
      obtain ⟨b, off, rfl⟩ := hr.some_ (by have := HP.out.1; omega)
      have k0 := hr.at_ (j := 0) hx (u := .int .i64 o.m.kd) rfl
      rw [Nat.add_zero] at k0
      have k1 := hr.at_ (j := 1) hx (u := .int .i64 o.m.pa) rfl
      have k2 := hr.at_ (j := 2) hx (u := .int .i64 o.m.lD) rfl
      have k3 := hr.at_ (j := 3) hx (u := .slice o.lv.a o.lv.n o.lv.c) rfl
      have k4 := hr.at_ (j := 4) hx (u := .int .i64 o.m.cD) rfl
      have k5 := hr.at_ (j := 5) hx (u := .slice o.cv.a o.cv.n o.cv.c) rfl
      have k6 := hr.at_ (j := 6) hx (u := .int .i64 o.m.pg) rfl
      have k7 := hr.at_ (j := 7) hx (u := .int .i64 o.m.nm) rfl
      have k8 := hr.at_ (j := 8) hx (u := .slice o.dv.a o.dv.n o.dv.c) rfl
      have k9 := hr.at_ (j := 9) hx (u := .slice o.mv.a o.mv.n o.mv.c) rfl
      have k10 := hr.at_ (j := 10) hx (u := .int .i64 o.m.sp) rfl
      have k11 := hr.at_ (j := 11) hx (u := .int .i64 o.m.pc) rfl
      have i1 : IntKind.i64.wrap ((k : Int) + 1) = ((k + 1 : Nat) : Int) := by rw [IntKind.wrap_i64]; omega
      have l1 : (k : Int) < l := by omega
      obtain ⟨b1, eb1⟩ : ∃ b1, placeB os k o.m = b1 := ⟨_, rfl⟩
      obtain ⟨b2, eb2⟩ : ∃ b2, kindB l o.m = b2 := ⟨_, rfl⟩
      have H1 := Lib.hid (show objsB os 0 os = ((b1 && b2) && objsB os (k + 1) (os.drop (k + 1))) by
        rw [hI.out.1, hdr, ← eb1, ← eb2, ← HOS.out.1, ← objB_eq]; rfl)
      have E1 := Lib.hid eb1
      have E2 := Lib.hid eb2
      have HG := Lib.hid (And.intro hg hlt)
      obtain ⟨w0, e0⟩ : ∃ w0, wr.alloc (Obj.cells #[.int .i64 o.m.kd, .int .i64 o.m.pa, .int .i64 o.m.lD, .slice o.lv.a o.lv.n o.lv.c, .int .i64 o.m.cD, .slice o.cv.a o.cv.n o.cv.c, .int .i64 o.m.pg, .int .i64 o.m.nm, .slice o.dv.a o.dv.n o.dv.c, .slice o.mv.a o.mv.n o.mv.c, .int .i64 o.m.sp, .int .i64 o.m.pc] 44) = w0 := ⟨_, rfl⟩
      obtain ⟨X, eX⟩ : ∃ X, wr.heap.size = X := ⟨_, rfl⟩
      have ho := OBx.new hod
      unfold arO at ho
      try simp only at ho
      rw [e0, eX] at ho
      have HO := Lib.hid ho
      have HW := Lib.hid hI.out.2
      have HLd := Lib.hid (show ovs.length ≤ 100000 ∧ k ≤ ovs.length from ⟨by have := HP.out.1; omega, by have := HP.out.1; omega⟩)
      have s1 : (k : Int) ≤ c := by have := HP.out.2.1; omega
      clear hx hox hdr hr hod hI hg hlt eb1 eb2 ho
      go_upto_region 6 with fail
      try rw [e0]
      try rw [eX]
      clear e0 eX k0 k1 k2 k3 k4 k5 k6 k7 k8 k9 k10 k11
      have HF := Lib.hid (fun (wS : World) (hS : Below w0.heap.size w0 wS) => (show wS.cell? ⟨X, 0, none⟩ = some (.int .i64 o.m.kd) ∧ wS.cell? ⟨X, 1, none⟩ = some (.int .i64 o.m.pa) ∧ wS.cell? ⟨X, 2, none⟩ = some (.int .i64 o.m.lD) ∧ wS.cell? ⟨X, 3, none⟩ = some (.slice o.lv.a o.lv.n o.lv.c) ∧ wS.cell? ⟨X, 4, none⟩ = some (.int .i64 o.m.cD) ∧ wS.cell? ⟨X, 5, none⟩ = some (.slice o.cv.a o.cv.n o.cv.c) ∧ wS.cell? ⟨X, 6, none⟩ = some (.int .i64 o.m.pg) ∧ wS.cell? ⟨X, 7, none⟩ = some (.int .i64 o.m.nm) ∧ wS.cell? ⟨X, 8, none⟩ = some (.slice o.dv.a o.dv.n o.dv.c) ∧ wS.cell? ⟨X, 9, none⟩ = some (.slice o.mv.a o.mv.n o.mv.c) ∧ wS.cell? ⟨X, 10, none⟩ = some (.int .i64 o.m.sp) ∧ wS.cell? ⟨X, 11, none⟩ = some (.int .i64 o.m.pc) from ⟨(HO.out.below hS).c 0 _ rfl, (HO.out.below hS).c 1 _ rfl, (HO.out.below hS).c 2 _ rfl, (HO.out.below hS).c 3 _ rfl, (HO.out.below hS).c 4 _ rfl, (HO.out.below hS).c 5 _ rfl, (HO.out.below hS).c 6 _ rfl, (HO.out.below hS).c 7 _ rfl, (HO.out.below hS).c 8 _ rfl, (HO.out.below hS).c 9 _ rfl, (HO.out.below hS).c 10 _ rfl, (HO.out.below hS).c 11 _ rfl⟩))
      go_cut [27] from 11 to 28 (fun v27 wx => v27 = .bool (!(b1 && b2)) ∧ Hid (Below W.heap.size W wx))
      case first =>
        refine region_AU (Z := fun j => false) (S := fun w' => Below w0.heap.size w0 w') (by kernel_rfl) ((Below.refl _ _).drew) (fun hHeld => ?_)
        refine AUS_take (by kernel_rfl) rfl (i := 0) (oi := _) (v := ?vw101) rfl (by kernel_rfl) (by kernel_rfl) (by kernel_rfl) (fun _ _ _ h => h) (Or.inl ⟨by rfl, ?hz101⟩) hHeld ?rst101
        case hz101 => (intro wS hSw; clear hSw; go_simp; try with_reducible rfl)
        simp only [Act.put, List.getElem_toArray, List.getElem_cons_zero, List.getElem_cons_succ, List.setIfInBounds_toArray, List.set_cons_zero, List.set_cons_succ]
        refine AUS_take (by kernel_rfl) rfl (i := 1) (oi := _) (v := ?vw102) rfl (by kernel_rfl) (by kernel_rfl) (by kernel_rfl) (fun _ _ _ h => h) (Or.inl ⟨by rfl, ?hz102⟩) hHeld ?rst102
        case hz102 => (intro wS hSw; clear hSw; go_simp; try with_reducible rfl)
        simp only [Act.put, List.getElem_toArray, List.getElem_cons_zero, List.getElem_cons_succ, List.setIfInBounds_toArray, List.set_cons_zero, List.set_cons_succ]
        refine AUS_take (by kernel_rfl) rfl (i := 2) (oi := _) (v := ?vw103) rfl (by kernel_rfl) (by kernel_rfl) (by kernel_rfl) (fun _ _ _ h => h) (Or.inl ⟨by rfl, ?hz103⟩) hHeld ?rst103
        case hz103 => (intro wS hSw; clear hSw; go_simp; try with_reducible rfl)
        simp only [Act.put, List.getElem_toArray, List.getElem_cons_zero, List.getElem_cons_succ, List.setIfInBounds_toArray, List.set_cons_zero, List.set_cons_succ]
        refine AUS_take (by kernel_rfl) rfl (i := 3) (oi := _) (v := ?vw104) rfl (by kernel_rfl) (by kernel_rfl) (by kernel_rfl) (fun _ _ _ h => h) (Or.inl ⟨by rfl, ?hz104⟩) hHeld ?rst104
        case hz104 => (intro wS hSw; obtain ⟨f0, f1, f2, f3, f4, f5, f6, f7, f8, f9, f10, f11⟩ := HF.out wS hSw; clear hSw; go_simp; try with_reducible rfl)
        simp only [Act.put, List.getElem_toArray, List.getElem_cons_zero, List.getElem_cons_succ, List.setIfInBounds_toArray, List.set_cons_zero, List.set_cons_succ]
        refine AU_one (i := 4) (o := _) (by kernel_rfl) rfl (fun K hK => ?_)
        have HH := Lib.hid hHeld
        have hw : Below W.heap.size W w0 := HW.out.trans (HO.out.b.mono HW.out.size)
        have hwz := hw.trans (hHeld.mono hw.size)
        have CC := rplace_any (c := c) HLd.out.1 HLd.out.2 (HP.out.2.2.1.below hwz) (fun x hx => (HP.out.2.2.2 x hx).below hwz) (HO.out.below hHeld).r
        rw [HM.out, E1.out] at CC
        have CC := Lib.hid CC
        clear hHeld hw hwz
        go_simp
        refine CC.out.mono ?_
        rintro e wz1 ⟨rfl, hb⟩
        have hHeld := HH.out.trans (hb.mono HH.out.size)
        clear HH hb CC
        refine hK.out _ _ (fun _ => hHeld) ?_
        clear hK K
        try simp only [Act.put, List.getElem_toArray, List.getElem_cons_zero, List.getElem_cons_succ, List.setIfInBounds_toArray, List.set_cons_zero, List.set_cons_succ]
        cases b1
        · refine AUS_take (by kernel_rfl) rfl (i := 5) (oi := _) (v := ?vw201) rfl (by kernel_rfl) (by kernel_rfl) (by kernel_rfl) (fun _ _ _ h => h) (Or.inl ⟨by rfl, ?hz201⟩) hHeld ?rst201
          case hz201 => (intro wS hSw; clear hSw; go_simp; try with_reducible rfl)
          simp only [Act.put, List.getElem_toArray, List.getElem_cons_zero, List.getElem_cons_succ, List.setIfInBounds_toArray, List.set_cons_zero, List.set_cons_succ]
          refine AUS_take (by kernel_rfl) rfl (i := 6) (oi := _) (v := ?vw202) rfl (by kernel_rfl) (by kernel_rfl) (by kernel_rfl) (fun _ _ _ h => h) (Or.inl ⟨by rfl, ?hz202⟩) hHeld ?rst202
          case hz202 => (intro wS hSw; clear hSw; go_simp; try with_reducible rfl)
          simp only [Act.put, List.getElem_toArray, List.getElem_cons_zero, List.getElem_cons_succ, List.setIfInBounds_toArray, List.set_cons_zero, List.set_cons_succ]
          refine AUS_take (by kernel_rfl) rfl (i := 7) (oi := _) (v := undef) rfl (by kernel_rfl) (by kernel_rfl) (by kernel_rfl) (fun _ _ _ h => h) (Or.inr ⟨by rfl, rfl⟩) hHeld ?rst203
          try simp only [Act.put, List.getElem_toArray, List.getElem_cons_zero, List.getElem_cons_succ, List.setIfInBounds_toArray, List.set_cons_zero, List.set_cons_succ]
          refine AUS_take (by kernel_rfl) rfl (i := 8) (oi := _) (v := undef) rfl (by kernel_rfl) (by kernel_rfl) (by kernel_rfl) (fun _ _ _ h => h) (Or.inr ⟨by rfl, rfl⟩) hHeld ?rst204
          try simp only [Act.put, List.getElem_toArray, List.getElem_cons_zero, List.getElem_cons_succ, List.setIfInBounds_toArray, List.set_cons_zero, List.set_cons_succ]
          refine AUS_take (by kernel_rfl) rfl (i := 9) (oi := _) (v := undef) rfl (by kernel_rfl) (by kernel_rfl) (by kernel_rfl) (fun _ _ _ h => h) (Or.inr ⟨by rfl, rfl⟩) hHeld ?rst205
          try simp only [Act.put, List.getElem_toArray, List.getElem_cons_zero, List.getElem_cons_succ, List.setIfInBounds_toArray, List.set_cons_zero, List.set_cons_succ]
          refine AUS_take (by kernel_rfl) rfl (i := 10) (oi := _) (v := undef) rfl (by kernel_rfl) (by kernel_rfl) (by kernel_rfl) (fun _ _ _ h => h) (Or.inr ⟨by rfl, rfl⟩) hHeld ?rst206
          try simp only [Act.put, List.getElem_toArray, List.getElem_cons_zero, List.getElem_cons_succ, List.setIfInBounds_toArray, List.set_cons_zero, List.set_cons_succ]
          refine AUS_take (by kernel_rfl) rfl (i := 11) (oi := _) (v := undef) rfl (by kernel_rfl) (by kernel_rfl) (by kernel_rfl) (fun _ _ _ h => h) (Or.inr ⟨by rfl, rfl⟩) hHeld ?rst207
          try simp only [Act.put, List.getElem_toArray, List.getElem_cons_zero, List.getElem_cons_succ, List.setIfInBounds_toArray, List.set_cons_zero, List.set_cons_succ]
          refine AUS_take (by kernel_rfl) rfl (i := 12) (oi := _) (v := ?vw208) rfl (by kernel_rfl) (by kernel_rfl) (by kernel_rfl) (fun _ _ _ h => h) (Or.inl ⟨by rfl, ?hz208⟩) hHeld ?rst208
          case hz208 => (intro wS hSw; clear hSw; go_simp; try with_reducible rfl)
          simp only [Act.put, List.getElem_toArray, List.getElem_cons_zero, List.getElem_cons_succ, List.setIfInBounds_toArray, List.set_cons_zero, List.set_cons_succ]
          refine AU_done (by kernel_rfl) ?_ _
          simp only [OnlyN]
          have hw : Below W.heap.size W w0 := HW.out.trans (HO.out.b.mono HW.out.size)
          have HFin := Lib.hid (hw.trans (hHeld.mono hw.size))
          clear hHeld hw
          go_wp2_with fail
          go_meet
          exact ⟨rfl, HFin⟩
        · refine AUS_take (by kernel_rfl) rfl (i := 5) (oi := _) (v := ?vw301) rfl (by kernel_rfl) (by kernel_rfl) (by kernel_rfl) (fun _ _ _ h => h) (Or.inl ⟨by rfl, ?hz301⟩) hHeld ?rst301
          case hz301 => (intro wS hSw; clear hSw; go_simp; try with_reducible rfl)
          simp only [Act.put, List.getElem_toArray, List.getElem_cons_zero, List.getElem_cons_succ, List.setIfInBounds_toArray, List.set_cons_zero, List.set_cons_succ]
          refine AUS_take (by kernel_rfl) rfl (i := 6) (oi := _) (v := ?vw302) rfl (by kernel_rfl) (by kernel_rfl) (by kernel_rfl) (fun _ _ _ h => h) (Or.inl ⟨by rfl, ?hz302⟩) hHeld ?rst302
          case hz302 => (intro wS hSw; clear hSw; go_simp; try with_reducible rfl)
          simp only [Act.put, List.getElem_toArray, List.getElem_cons_zero, List.getElem_cons_succ, List.setIfInBounds_toArray, List.set_cons_zero, List.set_cons_succ]
          refine AUS_take (by kernel_rfl) rfl (i := 7) (oi := _) (v := ?vw303) rfl (by kernel_rfl) (by kernel_rfl) (by kernel_rfl) (fun _ _ _ h => h) (Or.inl ⟨by rfl, ?hz303⟩) hHeld ?rst303
          case hz303 => (intro wS hSw; obtain ⟨f0, f1, f2, f3, f4, f5, f6, f7, f8, f9, f10, f11⟩ := HF.out wS hSw; clear hSw; go_simp; try with_reducible rfl)
          simp only [Act.put, List.getElem_toArray, List.getElem_cons_zero, List.getElem_cons_succ, List.setIfInBounds_toArray, List.set_cons_zero, List.set_cons_succ]
          refine AUS_take (by kernel_rfl) rfl (i := 8) (oi := _) (v := ?vw304) rfl (by kernel_rfl) (by kernel_rfl) (by kernel_rfl) (fun _ _ _ h => h) (Or.inl ⟨by rfl, ?hz304⟩) hHeld ?rst304
          case hz304 => (intro wS hSw; clear hSw; go_simp; try with_reducible rfl)
          simp only [Act.put, List.getElem_toArray, List.getElem_cons_zero, List.getElem_cons_succ, List.setIfInBounds_toArray, List.set_cons_zero, List.set_cons_succ]
          refine AUS_take (by kernel_rfl) rfl (i := 9) (oi := _) (v := ?vw305) rfl (by kernel_rfl) (by kernel_rfl) (by kernel_rfl) (fun _ _ _ h => h) (Or.inl ⟨by rfl, ?hz305⟩) hHeld ?rst305
          case hz305 => (intro wS hSw; clear hSw; go_simp; try with_reducible rfl)
          simp only [Act.put, List.getElem_toArray, List.getElem_cons_zero, List.getElem_cons_succ, List.setIfInBounds_toArray, List.set_cons_zero, List.set_cons_succ]
          refine AU_one (i := 10) (o := _) (by kernel_rfl) rfl (fun K hK => ?_)
          have HH := Lib.hid hHeld
          have CC := rkind_any (n := l) (by omega) (HO.out.below hHeld).r
          unfold arO at CC
          try simp only at CC
          rw [E2.out] at CC
          have CC := Lib.hid CC
          clear hHeld
          go_simp
          refine CC.out.mono ?_
          rintro e wz3 ⟨rfl, hb⟩
          have hHeld := HH.out.trans (hb.mono HH.out.size)
          clear HH hb CC
          refine hK.out _ _ (fun _ => hHeld) ?_
          clear hK K
          try simp only [Act.put, List.getElem_toArray, List.getElem_cons_zero, List.getElem_cons_succ, List.setIfInBounds_toArray, List.set_cons_zero, List.set_cons_succ]
          refine AUS_take (by kernel_rfl) rfl (i := 11) (oi := _) (v := ?vw306) rfl (by kernel_rfl) (by kernel_rfl) (by kernel_rfl) (fun _ _ _ h => h) (Or.inl ⟨by rfl, ?hz306⟩) hHeld ?rst306
          case hz306 => (intro wS hSw; clear hSw; go_simp; try with_reducible rfl)
          simp only [Act.put, List.getElem_toArray, List.getElem_cons_zero, List.getElem_cons_succ, List.setIfInBounds_toArray, List.set_cons_zero, List.set_cons_succ]
          refine AUS_take (by kernel_rfl) rfl (i := 12) (oi := _) (v := ?vw307) rfl (by kernel_rfl) (by kernel_rfl) (by kernel_rfl) (fun _ _ _ h => h) (Or.inl ⟨by rfl, ?hz307⟩) hHeld ?rst307
          case hz307 => (intro wS hSw; clear hSw; go_simp; try with_reducible rfl)
          simp only [Act.put, List.getElem_toArray, List.getElem_cons_zero, List.getElem_cons_succ, List.setIfInBounds_toArray, List.set_cons_zero, List.set_cons_succ]
          refine AU_done (by kernel_rfl) ?_ _
          simp only [OnlyN]
          have hw : Below W.heap.size W w0 := HW.out.trans (HO.out.b.mono HW.out.size)
          have HFin := Lib.hid (hw.trans (hHeld.mono hw.size))
          clear hHeld hw
          go_wp2_with fail
          go_meet
          exact ⟨rfl, HFin⟩
      case rest =>
        obtain ⟨rfl, HB⟩ := hcut
        obtain ⟨bb, ebb⟩ : ∃ bb, (b1 && b2) = bb := ⟨_, rfl⟩
        have HZ := Lib.hid (show objsB os 0 os = (bb && objsB os (k + 1) (os.drop (k + 1))) by rw [H1.out, ebb])
        rw [ebb]
        clear ebb
        cases bb
        · go_wp2_with fail
          go_ret
          exact ⟨ret_b (HZ.out.trans rfl), HB.out⟩
        go_wp2_with fail
        go_roundg (l - (k + 1))
        case rel => exact ⟨k + 1, HG.out.2, Nat.le_refl _, by first | rfl | simp, Lib.hid ⟨HZ.out, HB.out⟩⟩
        case measure => have := HG.out; omega
    · have l1 : ¬ (k : Int) < l := by omega
      have HF := Lib.hid (show objsB os 0 os = true by rw [hI.out.1, List.drop_eq_nil_of_le (by have := HOS.out.1; omega)]; rfl)
      have HB := Lib.hid hI.out.2
      clear hI hg hlt
      go_wp2_with fail
      go_ret
      exact ⟨ret_b HF.out, HB.out⟩
/-- A configuration in a box of its own. -/
structure CBx (W : World) (P : Nat) (co fr nm : Int) (A1 : Option Addr) (l1 c1 : Nat) (A2 : Option Addr) (l2 c2 : Nat) (xs : List Sl) (ovs : List Ov) (w : World) : Prop where
  b : Below W.heap.size W w
  p : w.heap[P]? = some (Obj.cells #[.int .i64 co, .int .i64 fr, .int .i64 nm, .slice A1 l1 c1, .slice A2 l2 c2] 29)
  r : CfR w A1 A2 l1 l2 xs ovs
section
variable {W w w' : World} {P : Nat} {co fr nm : Int} {A1 A2 : Option Addr} {l1 c1 l2 c2 : Nat} {xs : List Sl} {ovs : List Ov}
theorem CBx.below (h : CBx W P co fr nm A1 l1 c1 A2 l2 c2 xs ovs w) (hb : Below w.heap.size w w') : CBx W P co fr nm A1 l1 c1 A2 l2 c2 xs ovs w' :=
  ⟨h.b.trans (hb.mono h.b.size), (hb.block _ (Array.getElem?_eq_some_iff.1 h.p).1).trans h.p, h.r.below hb⟩
theorem CBx.c (h : CBx W P co fr nm A1 l1 c1 A2 l2 c2 xs ovs w) (j : Nat) (v : Value) (hv : (#[.int .i64 co, .int .i64 fr, .int .i64 nm, .slice A1 l1 c1, .slice A2 l2 c2] : Array Value)[j]? = some v) : w.cell? ⟨P, j, none⟩ = some v := by rw [cell_of_row _ _ _ _ _ (0, 0) h.p]; exact hv
theorem CBx.new (h : CfR W A1 A2 l1 l2 xs ovs) : CBx W W.heap.size co fr nm A1 l1 c1 A2 l2 c2 xs ovs (W.alloc (Obj.cells #[.int .i64 co, .int .i64 fr, .int .i64 nm, .slice A1 l1 c1, .slice A2 l2 c2] 29)) :=
  ⟨below_alloc1 _ _, heap_alloc_new W _, h.below (below_alloc1 _ _)⟩
theorem rightB_eq (n : Nat) (os : List Om) (hn : os.length = n) : rightB co fr nm xs os = (decide (1 ≤ co ∧ co ≤ 4) && (decide (1 ≤ fr ∧ fr ≤ 4096) && (decide (0 ≤ nm ∧ nm ≤ 4194302) && (slsB n xs && objsR os)))) := by
  subst hn
  unfold rightB objsR
  rw [slsB_eq]
  have h : hdrB co fr nm os.length xs.length = (decide (1 ≤ co ∧ co ≤ 4) && (decide (1 ≤ fr ∧ fr ≤ 4096) && (decide (0 ≤ nm ∧ nm ≤ 4194302) && (decide (1 ≤ xs.length ∧ xs.length ≤ 8) && decide (os.length ≤ 64))))) := by
    unfold hdrB
    rw [← Bool.decide_and, ← Bool.decide_and, ← Bool.decide_and, ← Bool.decide_and]
    exact decide_eq_decide.2 (by omega)
  rw [h]
  generalize decide (1 ≤ co ∧ co ≤ 4) = a
  generalize decide (1 ≤ fr ∧ fr ≤ 4096) = b
  generalize decide (0 ≤ nm ∧ nm ≤ 4194302) = c
  generalize decide (1 ≤ xs.length ∧ xs.length ≤ 8) = d
  generalize decide (os.length ≤ 64) = e
  generalize xs.all (slB os.length) = f
  generalize objsB os 0 os = g
  revert a b c d e f g
  decide
end
set_option maxHeartbeats 4000000 in
set_option maxRecDepth 100000 in
theorem cright_any {W : World} {co fr nm : Int} {A1 A2 : Option Addr} {l1 l2 c1 c2 : Nat} {xs : List Sl} {ovs : List Ov} (h : CfR W A1 A2 l1 l2 xs ovs) (hc : l2 ≤ c2) :
    Calls Try.prog 10 #[.agg #[.int .i64 co, .int .i64 fr, .int .i64 nm, .slice A1 l1 c1, .slice A2 l2 c2]] W (BB W (rightB co fr nm xs (ovs.map Ov.m))) := by
  obtain ⟨w0, e0⟩ : ∃ w0, W.alloc (Obj.cells #[.int .i64 co, .int .i64 fr, .int .i64 nm, .slice A1 l1 c1, .slice A2 l2 c2] 29) = w0 := ⟨_, rfl⟩
  obtain ⟨X, eX⟩ : ∃ X, W.heap.size = X := ⟨_, rfl⟩
  have HO := Lib.hid (CBx.new (co := co) (fr := fr) (nm := nm) (c1 := c1) (c2 := c2) h)
  rw [e0, eX] at HO
  obtain ⟨os, eos⟩ : ∃ os, ovs.map Ov.m = os := ⟨_, rfl⟩
  have HM := Lib.hid eos
  obtain ⟨b1, eb1⟩ : ∃ b, decide (1 ≤ co ∧ co ≤ 4) = b := ⟨_, rfl⟩
  obtain ⟨b2, eb2⟩ : ∃ b, decide (1 ≤ fr ∧ fr ≤ 4096) = b := ⟨_, rfl⟩
  obtain ⟨b3, eb3⟩ : ∃ b, decide (0 ≤ nm ∧ nm ≤ 4194302) = b := ⟨_, rfl⟩
  obtain ⟨b4, eb4⟩ : ∃ b, slsB l2 xs = b := ⟨_, rfl⟩
  obtain ⟨b5, eb5⟩ : ∃ b, objsR os = b := ⟨_, rfl⟩
  have HX := Lib.hid (show rightB co fr nm xs os = (b1 && (b2 && (b3 && (b4 && b5)))) by
    rw [rightB_eq l2 os (by rw [← eos, List.length_map]; exact h.n2.1), eb1, eb2, eb3, eb4, eb5])
  have Eb1 := Lib.hid eb1
  have Eb2 := Lib.hid eb2
  have Eb3 := Lib.hid eb3
  have Eb4 := Lib.hid eb4
  have Eb5 := Lib.hid eb5
  have HC := Lib.hid hc
  rw [eos]
  clear h eos eb1 eb2 eb3 eb4 eb5 hc
  go_enter Try.func10, Try.ntmps10
  go_upto_region 1 with fail
  try rw [e0]
  try rw [eX]
  clear e0 eX
  have x0 := HO.out.c 0 (.int .i64 co) rfl
  have C := within_any w0 co 1 4
  rw [Eb1.out] at C
  have C := Lib.hid C
  go_wp2_with fail
  refine C.out.mono ?_; rintro e w1 ⟨rfl, hb⟩
  have HO2 := Lib.hid (HO.out.below hb)
  clear hb C HO x0
  cases b1
  · go_wp2_with fail
    go_ret
    exact ⟨ret_b (HX.out.trans rfl), HO2.out.b⟩
  have x1 := HO2.out.c 1 (.int .i64 fr) rfl
  have C := within_any w1 fr 1 4096
  rw [Eb2.out] at C
  have C := Lib.hid C
  go_wp2_with fail
  refine C.out.mono ?_; rintro e w2 ⟨rfl, hb⟩
  have HO3 := Lib.hid (HO2.out.below hb)
  clear hb C HO2 x1
  cases b2
  · go_wp2_with fail
    go_ret
    exact ⟨ret_b (HX.out.trans rfl), HO3.out.b⟩
  have x2 := HO3.out.c 2 (.int .i64 nm) rfl
  have C := within_any w2 nm 0 4194302
  rw [Eb3.out] at C
  have C := Lib.hid C
  go_wp2_with fail
  refine C.out.mono ?_; rintro e w3 ⟨rfl, hb⟩
  have HO4 := Lib.hid (HO3.out.below hb)
  clear hb C HO3 x2
  cases b3
  · go_wp2_with fail
    go_ret
    exact ⟨ret_b (HX.out.trans rfl), HO4.out.b⟩
  have x3 := HO4.out.c 3 (.slice A1 l1 c1) rfl
  have x4 := HO4.out.c 4 (.slice A2 l2 c2) rfl
  have C := rslots_any (c := c1) (n := l2) HO4.out.r.n1.1 HO4.out.r.n1.2 HO4.out.r.n2.2 HO4.out.r.r1
  rw [Eb4.out] at C
  have C := Lib.hid C
  go_wp2_with fail
  refine C.out.mono ?_; rintro e w4 ⟨rfl, hb⟩
  have HO5 := Lib.hid (HO4.out.below hb)
  clear hb C HO4 x3 x4
  cases b4
  · go_wp2_with fail
    go_ret
    exact ⟨ret_b (HX.out.trans rfl), HO5.out.b⟩
  have x4 := HO5.out.c 4 (.slice A2 l2 c2) rfl
  have C := robjs_any (c := c2) HO5.out.r.n2.1 HC.out HO5.out.r.n2.2 HO5.out.r.r2 HO5.out.r.o2
  rw [HM.out] at C
  rw [Eb5.out] at C
  have C := Lib.hid C
  go_wp2_with fail
  refine C.out.mono ?_; rintro e w5 ⟨rfl, hb⟩
  have HO6 := Lib.hid (HO5.out.below hb)
  clear hb C HO5 x4
  go_wp2_with fail
  go_ret
  exact ⟨ret_b (HX.out.trans rfl), HO6.out.b⟩
end Go.Proofs.Ytmadldgajjgbmaa
