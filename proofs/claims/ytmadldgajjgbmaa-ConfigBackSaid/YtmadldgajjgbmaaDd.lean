/- config.rightPlace. -/
import Derived.Test.YtmadldgajjgbmaaDc
set_option linter.unusedVariables false
set_option linter.unusedSimpArgs false
namespace Go.Proofs.Ytmadldgajjgbmaa
open Go.RowKit
set_option linter.unusedVariables false
set_option linter.unusedSimpArgs false
/-- An object in its box X, its home's label in box H. -/
structure PlS (W : World) (X H : Nat) (o : Ov) (hD : Int) (ha : Option Addr) (hn hc : Nat) (hP : LP) (w : World) : Prop where
  s : OBx W X o w
  h : w.heap[H]? = some (Obj.cells #[.int .i64 hD, .slice ha hn hc] 41)
  a : LA 300 w hD ha hn hc hP
  n : W.heap.size ≤ H
theorem PlS.below {W w w' : World} {X H : Nat} {o : Ov} {hD : Int} {ha : Option Addr} {hn hc : Nat} {hP : LP} (h : PlS W X H o hD ha hn hc hP w) (hb : Below w.heap.size w w') : PlS W X H o hD ha hn hc hP w' :=
  ⟨h.s.below hb, (hb.block _ (Array.getElem?_eq_some_iff.1 h.h).1).trans h.h, h.a.below hb, h.n⟩
theorem PlS.hc {W w : World} {X H : Nat} {o : Ov} {hD : Int} {ha : Option Addr} {hn hc : Nat} {hP : LP} (h : PlS W X H o hD ha hn hc hP w) : w.cell? ⟨H, 0, none⟩ = some (.int .i64 hD) ∧ w.cell? ⟨H, 1, none⟩ = some (.slice ha hn hc) ∧ (∀ i, w.frozen? ⟨H, i, none⟩ = false) :=
  ⟨by rw [cell_of_row _ _ _ _ _ (0, 0) h.h]; rfl, by rw [cell_of_row _ _ _ _ _ (0, 0) h.h]; rfl, fun i => frozen_of_row _ _ _ _ _ h.h⟩
def placeB (os : List Om) (i : Nat) (o : Om) : Bool := decide (0 ≤ o.pa ∧ o.pa ≤ i) && homeOk (homeB os o.pa) o
theorem objB_eq (os : List Om) (i : Nat) (o : Om) : objB os i o = (placeB os i o && kindB os.length o) := by unfold objB placeB; rw [Bool.and_assoc]
theorem Ov.Rd.set {w w' : World} {o : Ov} {H : Nat} {cs : Array Value} (h : o.Rd w) (hH : w.heap.size ≤ H) (hb : Below w.heap.size w w') : o.Rd w' := h.below hb
set_option maxHeartbeats 4000000 in
set_option maxRecDepth 100000 in
theorem rplace_any {W : World} {A : Option Addr} {c i : Nat} {ovs : List Ov} {o : Ov} (hl : ovs.length ≤ 100000) (hi : i ≤ ovs.length) (hr : LV 12 encO W A ovs) (hd : ∀ o ∈ ovs, o.Rd W) (h : o.Rd W) :
    Calls Try.prog 36 #[.slice A i c, .agg #[.int .i64 o.m.kd, .int .i64 o.m.pa, .int .i64 o.m.lD, .slice o.lv.a o.lv.n o.lv.c, .int .i64 o.m.cD, .slice o.cv.a o.cv.n o.cv.c, .int .i64 o.m.pg, .int .i64 o.m.nm, .slice o.dv.a o.dv.n o.dv.c, .slice o.mv.a o.mv.n o.mv.c, .int .i64 o.m.sp, .int .i64 o.m.pc]] W (BB W (placeB (ovs.map Ov.m) i o.m)) := by
  have HP := Lib.hid (And.intro hl (And.intro hi (And.intro hr (And.intro hd h))))
  obtain ⟨w0, e0⟩ : ∃ w0, W.alloc (Obj.cells #[.int .i64 o.m.kd, .int .i64 o.m.pa, .int .i64 o.m.lD, .slice o.lv.a o.lv.n o.lv.c, .int .i64 o.m.cD, .slice o.cv.a o.cv.n o.cv.c, .int .i64 o.m.pg, .int .i64 o.m.nm, .slice o.dv.a o.dv.n o.dv.c, .slice o.mv.a o.mv.n o.mv.c, .int .i64 o.m.sp, .int .i64 o.m.pc] 44) = w0 := ⟨_, rfl⟩
  obtain ⟨X, eX⟩ : ∃ X, W.heap.size = X := ⟨_, rfl⟩
  have HO := Lib.hid (OBx.new h)
  unfold arO at HO
  try simp only at HO
  rw [e0, eX] at HO
  have C := Lib.hid (of_any 2 w0)
  obtain ⟨os, eos⟩ : ∃ os, ovs.map Ov.m = os := ⟨_, rfl⟩
  have HOS := Lib.hid (show ∀ (k : Nat) (o : Ov), ovs[k]? = some o → os[k]? = some o.m from fun k o hk => by rw [← eos, List.getElem?_map, hk]; rfl)
  rw [eos]
  clear h hr hd hl hi eos
  go_enter Try.func36, Try.ntmps36
  go_upto_region 1 with fail
  try rw [e0]
  try rw [eX]
  clear e0
  go_wp2_with fail
  refine C.out.mono ?_; rintro e w1 ⟨rfl, hb⟩
  have HO1 := Lib.hid (HO.out.below hb)
  clear hb C HO
  have x1 := HO1.out.c 1 (.int .i64 o.m.pa) rfl
  go_upto_region 2 with fail
  obtain ⟨H, eH⟩ : ∃ H, w1.heap.size = H := ⟨_, rfl⟩
  obtain ⟨w2, e2⟩ : ∃ w2, w1.alloc (Obj.cells #[.int .i64 2, .slice none 0 0] 41) = w2 := ⟨_, rfl⟩
  have hb2 : Below w1.heap.size w1 w2 := by rw [← e2]; exact below_alloc1 _ _
  have HS := Lib.hid (show PlS W X H o 2 none 0 0 [] w2 from ⟨HO1.out.below hb2, by rw [← e2, ← eH]; exact heap_alloc_new w1 _, (LO.la (show LO 300 W.heap.size w2 2 none 0 0 [] from ⟨Lab.ok_nil 2, by simp, World.ownsRow_nil _ _ _ _⟩)), by rw [← eH]; exact HO1.out.b.size⟩)
  try rw [e2]
  try rw [eH]
  clear e2 eH hb2 HO1 x1
  have x1 := HS.out.s.c 1 (.int .i64 o.m.pa) rfl
  obtain ⟨bq, ebq⟩ : ∃ bq, (o.m.pa != 0) = bq := ⟨_, rfl⟩
  have HQ := Lib.hid ebq
  go_upto_if 9 with fail
  clear ebq
  have HL := Lib.hid (show ovs.length ≤ 100000 ∧ i ≤ ovs.length from ⟨HP.out.1, HP.out.2.1⟩)
  go_cut [4] from 7 to 32 (fun v4 wx => ∃ hD ha hn hc hP, v4 = .bool false ∧ Hid ((0 ≤ o.m.pa ∧ o.m.pa ≤ i) ∧ homeB os o.m.pa = some (hD, hP)) ∧ Hid (PlS W X H o hD ha hn hc hP wx))
  case first =>
    cases bq
    · have hz : o.m.pa = 0 := by simpa using HQ.out
      have HZ := Lib.hid (show (0 ≤ o.m.pa ∧ o.m.pa ≤ i) ∧ homeB os o.m.pa = some (2, []) from ⟨by omega, by unfold homeB; rw [if_pos hz]⟩)
      clear hz
      go_wp2_with fail
      go_meet
      exact ⟨2, none, 0, 0, [], rfl, HZ, HS⟩
    · have hz : o.m.pa ≠ 0 := by simpa using HQ.out
      have HZ := Lib.hid hz
      have C := Lib.hid (within_any w2 o.m.pa 1 i)
      obtain ⟨b1, eb1⟩ : ∃ b1, decide (1 ≤ o.m.pa ∧ o.m.pa ≤ i) = b1 := ⟨_, rfl⟩
      rw [eb1] at C
      have EB := Lib.hid eb1
      clear hz eb1
      go_wp2_with fail
      refine C.out.mono ?_; rintro e w3 ⟨rfl, hb⟩
      have HS3 := Lib.hid (HS.out.below hb)
      clear hb C HS x1
      cases b1
      · have HX := Lib.hid (show placeB os i o.m = false by
          unfold placeB
          rw [decide_eq_false (show ¬ (0 ≤ o.m.pa ∧ o.m.pa ≤ i) from fun h => of_decide_eq_false EB.out ⟨by have := HZ.out; omega, h.2⟩)]; rfl)
        go_wp2_with fail
        go_ret
        exact ⟨ret_b HX.out, HS3.out.s.b⟩
      · have hpa := of_decide_eq_true EB.out
        obtain ⟨pn, epn⟩ : ∃ pn : Nat, o.m.pa = (pn : Int) + 1 := ⟨(o.m.pa - 1).toNat, by omega⟩
        have hpl : pn < ovs.length := by have := HL.out; omega
        obtain ⟨po, hpo⟩ : ∃ po, ovs[pn]? = some po := ⟨_, List.getElem?_eq_getElem hpl⟩
        have hr := HP.out.2.2.1.below HS3.out.s.b
        obtain ⟨b, off, rfl⟩ := hr.some_ (by omega)
        have j0 := hr.at_ (j := 0) hpo (u := .int .i64 po.m.kd) rfl
        rw [Nat.add_zero] at j0
        have j2 := hr.at_ (j := 2) hpo (u := .int .i64 po.m.lD) rfl
        have j3 := hr.at_ (j := 3) hpo (u := po.lv.v) rfl
        have x1 := HS3.out.s.c 1 (.int .i64 o.m.pa) rfl
        have iw : IntKind.i64.wrap (o.m.pa - 1) = (pn : Int) := by have := HL.out; rw [IntKind.wrap_i64]; omega
        have q4 : (pn : Int) < i := by omega
        have q5 : (0 : Int) ≤ pn := by omega
        have HPo := Lib.hid (And.intro epn (And.intro (HOS.out pn po hpo) (And.intro hpo hpa)))
        have HHm := Lib.hid (show homeB os o.m.pa = if po.m.kd = 1 then some (po.m.lD, po.m.lP) else none from by
          have h1 : (o.m.pa - 1).toNat = pn := by omega
          unfold homeB
          rw [if_neg HZ.out, h1, HPo.out.2.1])
        clear epn hpo hr hpl hpa
        by_cases hk : po.m.kd = 1
        · have k2 : (po.m.kd != 1) = false := by simp [hk]
          rw [if_pos hk] at HHm
          obtain ⟨y0, y1, yf⟩ := HS3.out.hc
          have hs0 := heap_setCell_same w3 H 0 _ 41 (.int .i64 po.m.lD) HS3.out.h
          have hs1 := heap_setCell_same _ H 1 _ 41 po.lv.v hs0
          have ho : ∀ bb, bb ≠ H → ((w3.setCell ⟨H, 0, none⟩ (.int .i64 po.m.lD)).setCell ⟨H, 1, none⟩ po.lv.v).heap[bb]? = w3.heap[bb]? := fun bb hb => (heap_setCell_other _ _ _ _ hb).trans (heap_setCell_other _ _ _ _ hb)
          have hbW : Below W.heap.size W ((w3.setCell ⟨H, 0, none⟩ (.int .i64 po.m.lD)).setCell ⟨H, 1, none⟩ po.lv.v) := (HS3.out.s.b.setCell (p := ⟨H, 0, none⟩) HS3.out.n _).setCell (p := ⟨H, 1, none⟩) HS3.out.n _
          have HFin := Lib.hid (show PlS W X H o po.m.lD po.lv.a po.lv.n po.lv.c po.m.lP ((w3.setCell ⟨H, 0, none⟩ (.int .i64 po.m.lD)).setCell ⟨H, 1, none⟩ po.lv.v) from ⟨⟨hbW, (ho X fun e => absurd (cells_ty (by rw [← e]; exact HS3.out.s.p) HS3.out.h) (by decide)).trans HS3.out.s.p, HP.out.2.2.2.2.below hbW⟩, hs1, ((HP.out.2.2.2.1 po (List.mem_of_getElem? HPo.out.2.2.1)).below hbW).l, HS3.out.n⟩)
          have HPA := Lib.hid (show 0 ≤ o.m.pa ∧ o.m.pa ≤ i from ⟨by have := HPo.out.1; omega, HPo.out.2.2.2.2⟩)
          clear hk hs0 hs1 ho hbW
          go_wp2_with fail
          go_meet
          exact ⟨_, _, _, _, _, rfl, Lib.hid ⟨HPA.out, HHm.out⟩, HFin⟩
        · have k2 : (po.m.kd != 1) = true := by simpa using hk
          rw [if_neg hk] at HHm
          have HX := Lib.hid (show placeB os i o.m = false by unfold placeB; rw [HHm.out]; exact Bool.and_false _)
          clear hk
          go_wp2_with fail
          go_ret
          exact ⟨ret_b HX.out, HS3.out.s.b⟩
  case rest =>
    clear HS x1
    obtain ⟨hD, ha, hn, hc, hP, rfl, HHm, hI⟩ := hcut
    have HI := hI
    obtain ⟨b1, eb1⟩ : ∃ b1, Lab.right o.m.lD o.m.lP = b1 := ⟨_, rfl⟩
    obtain ⟨b2, eb2⟩ : ∃ b2, lq hD hP (Lab.turn 0 2 o.m.lD) (Lab.tn 0 2 o.m.lD o.m.lP) = b2 := ⟨_, rfl⟩
    have HX := Lib.hid (show placeB os i o.m = (b1 && b2) by
      unfold placeB
      rw [decide_eq_true HHm.out.1, HHm.out.2, ← eb1, ← eb2]; rfl)
    have E1 := Lib.hid eb1
    have E2 := Lib.hid eb2
    clear hI eb1 eb2
    have HF := Lib.hid (fun (wS : World) (hS : Below wc.heap.size wc wS) => (show wS.cell? ⟨X, 2, none⟩ = some (.int .i64 o.m.lD) ∧ wS.cell? ⟨X, 3, none⟩ = some o.lv.v ∧ wS.cell? ⟨H, 0, none⟩ = some (.int .i64 hD) ∧ wS.cell? ⟨H, 1, none⟩ = some (.slice ha hn hc) from ⟨(HI.out.below hS).s.c 2 _ rfl, (HI.out.below hS).s.c 3 _ rfl, (HI.out.below hS).hc.1, (HI.out.below hS).hc.2.1⟩))
    go_upto_region 6 with fail
    refine region_AU (Z := fun j => false) (S := fun w' => Below wc.heap.size wc w') (by kernel_rfl) ((Below.refl _ _).drew) (fun hHeld => ?_)
    refine AUS_take (by kernel_rfl) rfl (i := 0) (oi := _) (v := ?vw101) rfl (by kernel_rfl) (by kernel_rfl) (by kernel_rfl) (fun _ _ _ h => h) (Or.inl ⟨by rfl, ?hz101⟩) hHeld ?rst101
    case hz101 => (intro wS hSw; clear hSw; go_simp; try with_reducible rfl)
    simp only [Act.put, List.getElem_toArray, List.getElem_cons_zero, List.getElem_cons_succ, List.setIfInBounds_toArray, List.set_cons_zero, List.set_cons_succ]
    refine AUS_take (by kernel_rfl) rfl (i := 1) (oi := _) (v := ?vw102) rfl (by kernel_rfl) (by kernel_rfl) (by kernel_rfl) (fun _ _ _ h => h) (Or.inl ⟨by rfl, ?hz102⟩) hHeld ?rst102
    case hz102 => (intro wS hSw; obtain ⟨f0, f1, f2, f3⟩ := HF.out wS hSw; clear hSw; go_simp; try with_reducible rfl)
    simp only [Act.put, List.getElem_toArray, List.getElem_cons_zero, List.getElem_cons_succ, List.setIfInBounds_toArray, List.set_cons_zero, List.set_cons_succ]
    refine AU_one (i := 2) (o := _) (by kernel_rfl) rfl (fun K hK => ?_)
    have HH := Lib.hid hHeld
    have CC := right_m (HI.out.below hHeld).s.r.l
    rw [E1.out] at CC
    have CC := Lib.hid CC
    clear hHeld
    go_simp
    refine CC.out.mono ?_
    rintro e wz1 ⟨rfl, hb⟩
    have hHeld := HH.out.trans (hb.mono HH.out.size)
    clear HH hb CC
    refine hK.out _ _ (fun _ => hHeld) ?_
    clear hK K
    try simp only [Act.put, List.getElem_toArray, List.getElem_cons_zero, List.getElem_cons_succ, List.setIfInBounds_toArray, List.set_cons_zero, List.set_cons_succ]
    cases b1
    · refine AUS_take (by kernel_rfl) rfl (i := 3) (oi := _) (v := ?vw201) rfl (by kernel_rfl) (by kernel_rfl) (by kernel_rfl) (fun _ _ _ h => h) (Or.inl ⟨by rfl, ?hz201⟩) hHeld ?rst201
      case hz201 => (intro wS hSw; clear hSw; go_simp; try with_reducible rfl)
      simp only [Act.put, List.getElem_toArray, List.getElem_cons_zero, List.getElem_cons_succ, List.setIfInBounds_toArray, List.set_cons_zero, List.set_cons_succ]
      refine AUS_take (by kernel_rfl) rfl (i := 4) (oi := _) (v := undef) rfl (by kernel_rfl) (by kernel_rfl) (by kernel_rfl) (fun _ _ _ h => h) (Or.inr ⟨by rfl, rfl⟩) hHeld ?rst202
      try simp only [Act.put, List.getElem_toArray, List.getElem_cons_zero, List.getElem_cons_succ, List.setIfInBounds_toArray, List.set_cons_zero, List.set_cons_succ]
      refine AUS_take (by kernel_rfl) rfl (i := 5) (oi := _) (v := undef) rfl (by kernel_rfl) (by kernel_rfl) (by kernel_rfl) (fun _ _ _ h => h) (Or.inr ⟨by rfl, rfl⟩) hHeld ?rst203
      try simp only [Act.put, List.getElem_toArray, List.getElem_cons_zero, List.getElem_cons_succ, List.setIfInBounds_toArray, List.set_cons_zero, List.set_cons_succ]
      refine AUS_take (by kernel_rfl) rfl (i := 6) (oi := _) (v := undef) rfl (by kernel_rfl) (by kernel_rfl) (by kernel_rfl) (fun _ _ _ h => h) (Or.inr ⟨by rfl, rfl⟩) hHeld ?rst204
      try simp only [Act.put, List.getElem_toArray, List.getElem_cons_zero, List.getElem_cons_succ, List.setIfInBounds_toArray, List.set_cons_zero, List.set_cons_succ]
      refine AUS_take (by kernel_rfl) rfl (i := 7) (oi := _) (v := undef) rfl (by kernel_rfl) (by kernel_rfl) (by kernel_rfl) (fun _ _ _ h => h) (Or.inr ⟨by rfl, rfl⟩) hHeld ?rst205
      try simp only [Act.put, List.getElem_toArray, List.getElem_cons_zero, List.getElem_cons_succ, List.setIfInBounds_toArray, List.set_cons_zero, List.set_cons_succ]
      refine AUS_take (by kernel_rfl) rfl (i := 8) (oi := _) (v := undef) rfl (by kernel_rfl) (by kernel_rfl) (by kernel_rfl) (fun _ _ _ h => h) (Or.inr ⟨by rfl, rfl⟩) hHeld ?rst206
      try simp only [Act.put, List.getElem_toArray, List.getElem_cons_zero, List.getElem_cons_succ, List.setIfInBounds_toArray, List.set_cons_zero, List.set_cons_succ]
      refine AUS_take (by kernel_rfl) rfl (i := 9) (oi := _) (v := ?vw207) rfl (by kernel_rfl) (by kernel_rfl) (by kernel_rfl) (fun _ _ _ h => h) (Or.inl ⟨by rfl, ?hz207⟩) hHeld ?rst207
      case hz207 => (intro wS hSw; clear hSw; go_simp; try with_reducible rfl)
      simp only [Act.put, List.getElem_toArray, List.getElem_cons_zero, List.getElem_cons_succ, List.setIfInBounds_toArray, List.set_cons_zero, List.set_cons_succ]
      refine AUS_take (by kernel_rfl) rfl (i := 10) (oi := _) (v := ?vw208) rfl (by kernel_rfl) (by kernel_rfl) (by kernel_rfl) (fun _ _ _ h => h) (Or.inl ⟨by rfl, ?hz208⟩) hHeld ?rst208
      case hz208 => (intro wS hSw; clear hSw; go_simp; try with_reducible rfl)
      simp only [Act.put, List.getElem_toArray, List.getElem_cons_zero, List.getElem_cons_succ, List.setIfInBounds_toArray, List.set_cons_zero, List.set_cons_succ]
      refine AU_done (by kernel_rfl) ?_ _
      simp only [OnlyN]
      have HFin := Lib.hid (HI.out.below hHeld).s.b
      clear hHeld
      go_wp2_with fail
      go_ret
      exact ⟨ret_b (HX.out.trans rfl), HFin.out⟩
    · refine AUS_take (by kernel_rfl) rfl (i := 3) (oi := _) (v := ?vw301) rfl (by kernel_rfl) (by kernel_rfl) (by kernel_rfl) (fun _ _ _ h => h) (Or.inl ⟨by rfl, ?hz301⟩) hHeld ?rst301
      case hz301 => (intro wS hSw; clear hSw; go_simp; try with_reducible rfl)
      simp only [Act.put, List.getElem_toArray, List.getElem_cons_zero, List.getElem_cons_succ, List.setIfInBounds_toArray, List.set_cons_zero, List.set_cons_succ]
      refine AUS_take (by kernel_rfl) rfl (i := 4) (oi := _) (v := ?vw302) rfl (by kernel_rfl) (by kernel_rfl) (by kernel_rfl) (fun _ _ _ h => h) (Or.inl ⟨by rfl, ?hz302⟩) hHeld ?rst302
      case hz302 => (intro wS hSw; obtain ⟨f0, f1, f2, f3⟩ := HF.out wS hSw; clear hSw; go_simp; try with_reducible rfl)
      simp only [Act.put, List.getElem_toArray, List.getElem_cons_zero, List.getElem_cons_succ, List.setIfInBounds_toArray, List.set_cons_zero, List.set_cons_succ]
      refine AUS_take (by kernel_rfl) rfl (i := 5) (oi := _) (v := ?vw303) rfl (by kernel_rfl) (by kernel_rfl) (by kernel_rfl) (fun _ _ _ h => h) (Or.inl ⟨by rfl, ?hz303⟩) hHeld ?rst303
      case hz303 => (intro wS hSw; clear hSw; go_simp; try with_reducible rfl)
      simp only [Act.put, List.getElem_toArray, List.getElem_cons_zero, List.getElem_cons_succ, List.setIfInBounds_toArray, List.set_cons_zero, List.set_cons_succ]
      refine AUS_take (by kernel_rfl) rfl (i := 6) (oi := _) (v := ?vw304) rfl (by kernel_rfl) (by kernel_rfl) (by kernel_rfl) (fun _ _ _ h => h) (Or.inl ⟨by rfl, ?hz304⟩) hHeld ?rst304
      case hz304 => (intro wS hSw; obtain ⟨f0, f1, f2, f3⟩ := HF.out wS hSw; clear hSw; go_simp; try with_reducible rfl)
      simp only [Act.put, List.getElem_toArray, List.getElem_cons_zero, List.getElem_cons_succ, List.setIfInBounds_toArray, List.set_cons_zero, List.set_cons_succ]
      refine AU_one (i := 7) (o := _) (by kernel_rfl) rfl (fun K hK => ?_)
      have HH := Lib.hid hHeld
      have CC := Lib.hid (rest_m (HI.out.below hHeld).s.r.l (by omega))
      clear hHeld
      go_simp
      refine CC.out.mono ?_
      rintro e wz2 ⟨a2, n2, c2, rfl, l2, hb⟩
      have hHeld := HH.out.trans (hb.mono HH.out.size)
      clear HH hb CC
      refine hK.out _ _ (fun _ => hHeld) ?_
      clear hK K
      try simp only [Act.put, List.getElem_toArray, List.getElem_cons_zero, List.getElem_cons_succ, List.setIfInBounds_toArray, List.set_cons_zero, List.set_cons_succ]
      refine AU_one (i := 8) (o := _) (by kernel_rfl) rfl (fun K hK => ?_)
      have HH := Lib.hid hHeld
      have CC := leq_m (HI.out.below hHeld).a l2.la (by omega) (by omega)
      rw [E2.out] at CC
      have CC := Lib.hid CC
      clear hHeld
      go_simp
      refine CC.out.mono ?_
      rintro e wz3 ⟨rfl, hb⟩
      have hHeld := HH.out.trans (hb.mono HH.out.size)
      clear HH hb CC l2
      refine hK.out _ _ (fun _ => hHeld) ?_
      clear hK K
      try simp only [Act.put, List.getElem_toArray, List.getElem_cons_zero, List.getElem_cons_succ, List.setIfInBounds_toArray, List.set_cons_zero, List.set_cons_succ]
      refine AUS_take (by kernel_rfl) rfl (i := 9) (oi := _) (v := ?vw305) rfl (by kernel_rfl) (by kernel_rfl) (by kernel_rfl) (fun _ _ _ h => h) (Or.inl ⟨by rfl, ?hz305⟩) hHeld ?rst305
      case hz305 => (intro wS hSw; clear hSw; go_simp; try with_reducible rfl)
      simp only [Act.put, List.getElem_toArray, List.getElem_cons_zero, List.getElem_cons_succ, List.setIfInBounds_toArray, List.set_cons_zero, List.set_cons_succ]
      refine AUS_take (by kernel_rfl) rfl (i := 10) (oi := _) (v := ?vw306) rfl (by kernel_rfl) (by kernel_rfl) (by kernel_rfl) (fun _ _ _ h => h) (Or.inl ⟨by rfl, ?hz306⟩) hHeld ?rst306
      case hz306 => (intro wS hSw; clear hSw; go_simp; try with_reducible rfl)
      simp only [Act.put, List.getElem_toArray, List.getElem_cons_zero, List.getElem_cons_succ, List.setIfInBounds_toArray, List.set_cons_zero, List.set_cons_succ]
      refine AU_done (by kernel_rfl) ?_ _
      simp only [OnlyN]
      have HFin := Lib.hid (HI.out.below hHeld).s.b
      clear hHeld
      go_wp2_with fail
      go_ret
      exact ⟨ret_b (HX.out.trans rfl), HFin.out⟩
end Go.Proofs.Ytmadldgajjgbmaa
