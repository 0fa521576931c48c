/- config's reader: the objects, a configuration. -/
import Derived.Test.YtmadldgajjgbmaaGd
set_option linter.unusedVariables false
set_option linter.unusedSimpArgs false
namespace Go.Proofs.Ytmadldgajjgbmaa
open Go.RowKit
set_option linter.unusedVariables false
set_option linter.unusedSimpArgs false
theorem turn_keep {own : Nat → Prop} {S : List Nat} {w w' : World} {T : TypeId} (hT : Turn S w w') (hS : ∀ b ∈ S, own b ∧ ∃ cur, w.heap[b]? = some (Obj.cells cur T)) (b : Nat) (cur : Array Value) (u : TypeId) (hu : u ≠ T) (hb : w.heap[b]? = some (Obj.cells cur u)) : w'.heap[b]? = some (Obj.cells cur u) :=
  (hT.block b (Array.getElem?_eq_some_iff.1 hb).1 fun hm => by
    obtain ⟨_, cur', h2⟩ := hS b hm
    exact hu (cells_ty hb h2)).trans hb
set_option maxHeartbeats 4000000 in
set_option maxRecDepth 100000 in
theorem lob_any {w : World} {R : Nat} {s : St} (h : Rd w R s.1 s.2) {B : Nat} (hB : B ≤ w.heap.size) : Calls Try.prog 48 #[.agg #[.pointer (some ⟨R, 0, none⟩)], .func (.func 49) #[] #[]] w fun e w' => ∃ v, e = .returned v ∧ ∃ xs, RV (fun b => w.heap.size ≤ b) 44 12 encO w' v xs ∧ xs.map (Ov.m) = (rLs rOm s).1 ∧ RE w R (rLs rOm s).2 w' ∧ (fun w xs => ∀ o ∈ xs, o.Rt B w) w' xs := by
  obtain ⟨w0, e0⟩ : ∃ w0, w.alloc (Obj.cells #[.pointer (some ⟨R, 0, none⟩)] 76) = w0 := ⟨_, rfl⟩
  obtain ⟨X, eX⟩ : ∃ X, w.heap.size = X := ⟨_, rfl⟩
  have hb0 : Below w.heap.size w w0 := by rw [← e0]; exact below_alloc1 w _
  have hX : w0.heap[X]? = some (Obj.cells #[.pointer (some ⟨R, 0, none⟩)] 76) := by rw [← e0, ← eX]; exact heap_alloc_new w _
  have H0 := Lib.hid (show RE w R s w0 from ⟨h.below hb0, grown_below hb0⟩)
  have hcn := (Pk.nx_byte (n := 1) h.byte).1
  have C := Lib.hid (rnum_any (n := 1) H0.out.1 (by omega))
  have c0 : w0.cell? ⟨X, 0, none⟩ = some (.pointer (some ⟨R, 0, none⟩)) := by rw [cell_of_row _ _ _ _ _ (0, 0) hX]; rfl
  obtain ⟨n, en⟩ : ∃ n, (Pk.nx 1 s).1 = n := ⟨_, rfl⟩
  rw [en] at C hcn
  have HX := Lib.hid hX
  have HN := Lib.hid (And.intro en hcn)
  have HBB := Lib.hid hB
  clear hB
  clear h hb0 hX hcn en
  go_enter Try.func48, Try.ntmps48
  go_upto_region 1 with fail
  try rw [e0]
  try rw [eX]
  clear e0 eX
  go_wp2_with fail
  refine C.out.mono ?_; rintro e w1 ⟨rfl, hre⟩
  have HI0 := Lib.hid (show LI 44 12 encO (Ov.m) rOm (fun w xs => ∀ o ∈ xs, o.Rt B w) w R X n (Pk.nx 1 s).2 0 (.slice none 0 0) w1 from ⟨[], _, RV.nil _ _, rfl, H0.out.trans hre, by simp, hre.keeps H0.out.1 HX.out (by decide), by simp⟩)
  clear hre C c0
  go_wp2_with fail
  go_loopg [5, 8] n (fun gh v5 vi wr => ∃ (k : Nat) (v : Value), k ≤ n ∧ n - k ≤ gh ∧ v = v5 ∧ vi = .int .i64 k ∧ Hid (LI 44 12 encO (Ov.m) rOm (fun w xs => ∀ o ∈ xs, o.Rt B w) w R X n (Pk.nx 1 s).2 k v wr))
  case atStart => exact ⟨0, _, by omega, by omega, rfl, rfl, HI0⟩
  case round =>
    obtain ⟨k, vv, hk, hg, rfl, rfl, hI⟩ := hrel
    clear HI0
    by_cases hlt : k < n
    · have l1 : (k : Int) < n := by omega
      have iw : IntKind.i64.wrap ((k : Int) + 1) = ((k + 1 : Nat) : Int) := by have := HN.out.2; rw [IntKind.wrap_i64]; omega
      obtain ⟨xs, t, h1, h2, h3, h4, h5, h6⟩ := hI.out
      have c1 : wr.cell? ⟨X, 0, none⟩ = some (.pointer (some ⟨R, 0, none⟩)) := by rw [cell_of_row _ _ _ _ _ (0, 0) h5]; rfl
      have C := Lib.hid (robj_any (B := B) h3.1 (Nat.le_trans HBB.out h3.2.size))
      have HG := Lib.hid (And.intro hg (And.intro hlt (And.intro h2 (And.intro h3 (And.intro h4 (And.intro h5 (And.intro h6 h1)))))))
      clear h1 h2 h3 h4 h5 h6 hg hlt hI
      go_wp2_with fail
      refine C.out.mono ?_; rintro e w2 ⟨o, rfl, hom, hrt, hre⟩
      unfold arO
      have hrv2 : RV (fun b => w.heap.size ≤ b) 44 12 encO w2 vv xs := HG.out.2.2.2.2.2.2.2.keep fun b cur hb1 hb2 => ⟨hb1, (hre.keeps HG.out.2.2.2.1.1 hb2 (by decide)).trans hb2.symm⟩
      obtain ⟨v', w3, hrun, hrv, S, hT, hS⟩ := app_ob 27 o hrv2 (by have := HG.out; have := HN.out; omega)
      have HR := Lib.hid hrun
      have HE := Lib.hid (show LI 44 12 encO (Ov.m) rOm (fun w xs => ∀ o ∈ xs, o.Rt B w) w R X n (Pk.nx 1 s).2 (k + 1) v' w3 from LI.app HG.out.2.1 HG.out.2.2.1 HG.out.2.2.2.1 HG.out.2.2.2.2.1 HG.out.2.2.2.2.2.1 hre hom hrv hT hS (by decide) (by decide) (by decide) (fun x hx => by
        rcases List.mem_append.1 hx with h | h
        · exact (rt_re (HG.out.2.2.2.2.2.2.1 x h) HG.out.2.2.2.1.1 hre).keep fun b cur u hu _ hb => turn_keep hT hS b cur u hu hb
        · rw [List.mem_singleton.1 h]; exact hrt.keep fun b cur u hu _ hb => turn_keep hT hS b cur u hu hb))
      clear hre hrv2 hrun hrv hT hS C c1 hom hrt
      go_wp2_with (at_builtin; refine wpList_append_by rfl (.tmp 10) (.tmp 14) _ _ rfl _ _ _ rfl rfl w3 HR.out ?_)
      go_roundg (n - (k + 1))
      case rel => exact ⟨k + 1, _, HG.out.2.1, Nat.le_refl _, rfl, by first | rfl | simp, HE⟩
      case measure => have := HG.out; omega
    · have l1 : ¬ (k : Int) < n := by omega
      obtain rfl : k = n := by omega
      clear hlt hg hk
      go_wp2_with fail
      go_ret
      obtain ⟨xs, h1, h2, h3, h4⟩ := hI.out.done
      unfold rLs
      rw [HN.out.1]
      exact ⟨_, rfl, xs, h1, by simpa using h2, h3, by simpa using h4⟩
theorem rt_keep3 {B : Nat} {w w' : World} {o : Ov} (h : o.Rt B w) (hk : ∀ (b : Nat) (cur : Array Value) (u : TypeId), (u = 80 ∨ u = 5 ∨ u = 93) → w.heap[b]? = some (Obj.cells cur u) → w'.heap[b]? = some (Obj.cells cur u)) : o.Rt B w' :=
  ⟨h.l.keep fun b cur h1 h2 => (hk b cur _ (.inl rfl) h2).trans h2.symm, h.c.keep fun b cur h1 h2 => (hk b cur _ (.inl rfl) h2).trans h2.symm, ⟨h.d.1, h.d.2.1, h.d.2.2.1.kept fun b cs hb => hk b cs _ (.inr (.inl rfl)) hb, h.d.2.2.2⟩, ⟨h.p.1.keep fun b cur h1 h2 => ⟨h1, (hk b cur _ (.inr (.inr rfl)) h2).trans h2.symm⟩, h.p.2⟩⟩
/-- A configuration that was read, in memory. -/
structure CfT (B : Nat) (w : World) (s : St) (A1 : Option Addr) (c1 : Nat) (A2 : Option Addr) (c2 : Nat) (ovs : List Ov) : Prop where
  x : RV (fun b => B ≤ b) 49 2 encSl w (.slice A1 (rCf s).1.xs.length c1) (rCf s).1.xs
  xo : ∀ x ∈ (rCf s).1.xs, x.Ok
  o : RV (fun b => B ≤ b) 44 12 encO w (.slice A2 (rCf s).1.os.length c2) ovs
  m : ovs.map Ov.m = (rCf s).1.os
  rt : ∀ o ∈ ovs, o.Rt B w
theorem CfT.keep {B : Nat} {w w' : World} {s : St} {A1 A2 : Option Addr} {c1 c2 : Nat} {ovs : List Ov} (h : CfT B w s A1 c1 A2 c2 ovs) (hk : ∀ (b : Nat) (cur : Array Value) (u : TypeId), u ≠ 29 → w.heap[b]? = some (Obj.cells cur u) → w'.heap[b]? = some (Obj.cells cur u)) : CfT B w' s A1 c1 A2 c2 ovs :=
  ⟨h.x.keep fun b cur h1 h2 => ⟨h1, (hk b cur _ (by decide) h2).trans h2.symm⟩, h.xo, h.o.keep fun b cur h1 h2 => ⟨h1, (hk b cur _ (by decide) h2).trans h2.symm⟩, h.m, fun o ho => rt_keep3 (h.rt o ho) fun b cur u hu hb => hk b cur u (by rcases hu with rfl | rfl | rfl <;> decide) hb⟩
set_option maxHeartbeats 4000000 in
set_option maxRecDepth 100000 in
theorem rconf_any {w : World} {B R : Nat} {s : St} (h : Rd w R s.1 s.2) (hB : B ≤ w.heap.size) : Calls Try.prog 29 #[.agg #[.pointer (some ⟨R, 0, none⟩)]] w fun e w' => ∃ A1 c1 A2 c2 ovs, e = .returned (.agg #[.int .i64 ((rCf s).1.co : Int), .int .i64 ((rCf s).1.fr : Int), .int .i64 ((rCf s).1.nm : Int), .slice A1 (rCf s).1.xs.length c1, .slice A2 (rCf s).1.os.length c2]) ∧ CfT B w' s A1 c1 A2 c2 ovs ∧ RE w R (rCf s).2 w' := by
  obtain ⟨wA, eA⟩ : ∃ wA, w.alloc (Obj.cells #[.pointer (some ⟨R, 0, none⟩)] 76) = wA := ⟨_, rfl⟩
  obtain ⟨X, eX⟩ : ∃ X, w.heap.size = X := ⟨_, rfl⟩
  have hbA : Below w.heap.size w wA := by rw [← eA]; exact below_alloc1 w _
  have hXA : wA.heap[X]? = some (Obj.cells #[.pointer (some ⟨R, 0, none⟩)] 76) := by rw [← eA, ← eX]; exact heap_alloc_new w _
  obtain ⟨w0, e0⟩ : ∃ w0, wA.alloc (Obj.cells #[.int .i64 0, .int .i64 0, .int .i64 0, .slice none 0 0, .slice none 0 0] 29) = w0 := ⟨_, rfl⟩
  obtain ⟨Q, eQ⟩ : ∃ Q, wA.heap.size = Q := ⟨_, rfl⟩
  have hXQ : X + 1 = Q := by rw [← eQ, ← eA, ← eX]; simp
  have hb1 : Below wA.heap.size wA w0 := by rw [← e0]; exact below_alloc1 wA _
  have hQ : w0.heap[Q]? = some (Obj.cells #[.int .i64 0, .int .i64 0, .int .i64 0, .slice none 0 0, .slice none 0 0] 29) := by rw [← e0, ← eQ]; exact heap_alloc_new wA _
  have hX := (hb1.block _ (Array.getElem?_eq_some_iff.1 hXA).1).trans hXA
  have hb0 : Below w.heap.size w w0 := hbA.trans (hb1.mono hbA.size)
  have H0 := Lib.hid (show RE w R s w0 from ⟨h.below hb0, grown_below hb0⟩)
  have HQ0 := Lib.hid hQ
  have HX := Lib.hid hX
  have HL := Lib.hid (show w.heap.size ≤ Q ∧ B ≤ w.heap.size from ⟨by omega, hB⟩)
  clear h hbA hXA hb1 hQ hX hb0 hB
  go_enter Try.func29, Try.ntmps29
  go_upto_region 1 with fail
  try rw [eA]
  try rw [eX]
  try rw [hXQ]
  try rw [e0]
  clear eA e0 eX eQ hXQ
  have HF := Lib.hid (fun (wS : World) (hS : wS.heap[X]? = some (Obj.cells #[.pointer (some ⟨R, 0, none⟩)] 76)) => (show wS.cell? ⟨X, 0, none⟩ = some (.pointer (some ⟨R, 0, none⟩)) from by rw [cell_of_row _ _ _ _ _ (0, 0) hS]; rfl))
  refine region_AU (Z := fun _ => false) (S := fun wS => wS.heap[X]? = some (Obj.cells #[.pointer (some ⟨R, 0, none⟩)] 76)) (by kernel_rfl) (show w0.drew.heap[X]? = _ from HX.out) (fun hHeld => ?_)
  refine AUS_take (by kernel_rfl) rfl (i := 0) (oi := _) (v := ?vw101) rfl (by kernel_rfl) (by kernel_rfl) (by kernel_rfl) (fun _ _ _ h => h) (Or.inl ⟨by rfl, ?hz101⟩) hHeld ?rst101
  case hz101 => (intro wS hSw; obtain f0 := HF.out wS hSw; clear hSw; go_simp; try with_reducible rfl)
  simp only [Act.put, List.getElem_toArray, List.getElem_cons_zero, List.getElem_cons_succ, List.setIfInBounds_toArray, List.set_cons_zero, List.set_cons_succ]
  refine AUS_take (by kernel_rfl) rfl (i := 2) (oi := _) (v := ?vw102) rfl (by kernel_rfl) (by kernel_rfl) (by kernel_rfl) (fun _ _ _ h => h) (Or.inl ⟨by rfl, ?hz102⟩) hHeld ?rst102
  case hz102 => (intro wS hSw; obtain f0 := HF.out wS hSw; clear hSw; go_simp; try with_reducible rfl)
  simp only [Act.put, List.getElem_toArray, List.getElem_cons_zero, List.getElem_cons_succ, List.setIfInBounds_toArray, List.set_cons_zero, List.set_cons_succ]
  refine AUS_take (by kernel_rfl) rfl (i := 4) (oi := _) (v := ?vw103) rfl (by kernel_rfl) (by kernel_rfl) (by kernel_rfl) (fun _ _ _ h => h) (Or.inl ⟨by rfl, ?hz103⟩) hHeld ?rst103
  case hz103 => (intro wS hSw; obtain f0 := HF.out wS hSw; clear hSw; go_simp; try with_reducible rfl)
  simp only [Act.put, List.getElem_toArray, List.getElem_cons_zero, List.getElem_cons_succ, List.setIfInBounds_toArray, List.set_cons_zero, List.set_cons_succ]
  refine AUS_take (by kernel_rfl) rfl (i := 6) (oi := _) (v := ?vw104) rfl (by kernel_rfl) (by kernel_rfl) (by kernel_rfl) (fun _ _ _ h => h) (Or.inl ⟨by rfl, ?hz104⟩) hHeld ?rst104
  case hz104 => (intro wS hSw; obtain f0 := HF.out wS hSw; clear hSw; go_simp; try with_reducible rfl)
  simp only [Act.put, List.getElem_toArray, List.getElem_cons_zero, List.getElem_cons_succ, List.setIfInBounds_toArray, List.set_cons_zero, List.set_cons_succ]
  refine AUS_take (by kernel_rfl) rfl (i := 8) (oi := _) (v := ?vw105) rfl (by kernel_rfl) (by kernel_rfl) (by kernel_rfl) (fun _ _ _ h => h) (Or.inl ⟨by rfl, ?hz105⟩) hHeld ?rst105
  case hz105 => (intro wS hSw; obtain f0 := HF.out wS hSw; clear hSw; go_simp; try with_reducible rfl)
  simp only [Act.put, List.getElem_toArray, List.getElem_cons_zero, List.getElem_cons_succ, List.setIfInBounds_toArray, List.set_cons_zero, List.set_cons_succ]
  have HD := Lib.hid (show RE w R s w0.drew from ⟨H0.out.1.below (Below.refl _ w0).drew, grown_trans H0.out.2 (grown_below (Below.refl _ w0).drew)⟩)
  have HQD := Lib.hid (show w0.drew.heap[Q]? = some (Obj.cells #[.int .i64 0, .int .i64 0, .int .i64 0, .slice none 0 0, .slice none 0 0] 29) from HQ0.out)
  refine AU_one (i := 1) (o := _) (by kernel_rfl) rfl (fun K hK => ?_)
  have HH := Lib.hid hHeld
  have CC := Lib.hid (rnum_any (n := 1) HD.out.1 (by omega))
  clear hHeld
  go_simp
  refine CC.out.mono ?_
  rintro e wz1 ⟨rfl, hre⟩
  have H1 := Lib.hid (HD.out.trans hre)
  have hHeld : wz1.heap[X]? = some (Obj.cells #[.pointer (some ⟨R, 0, none⟩)] 76) := hre.keeps HD.out.1 HH.out (by decide)
  have HQ1 := Lib.hid (hre.keeps HD.out.1 HQD.out (by decide))
  clear HH hre CC
  refine hK.out _ _ (fun _ => hHeld) ?_
  clear hK K
  try simp only [Act.put, List.getElem_toArray, List.getElem_cons_zero, List.getElem_cons_succ, List.setIfInBounds_toArray, List.set_cons_zero, List.set_cons_succ]
  refine AU_one (i := 3) (o := _) (by kernel_rfl) rfl (fun K hK => ?_)
  have HH := Lib.hid hHeld
  have CC := Lib.hid (rnum_any (n := 2) H1.out.1 (by omega))
  clear hHeld
  go_simp
  refine CC.out.mono ?_
  rintro e wz2 ⟨rfl, hre⟩
  have H2 := Lib.hid (H1.out.trans hre)
  have hHeld : wz2.heap[X]? = some (Obj.cells #[.pointer (some ⟨R, 0, none⟩)] 76) := hre.keeps H1.out.1 HH.out (by decide)
  have HQ2 := Lib.hid (hre.keeps H1.out.1 HQ1.out (by decide))
  clear HH hre CC
  refine hK.out _ _ (fun _ => hHeld) ?_
  clear hK K
  try simp only [Act.put, List.getElem_toArray, List.getElem_cons_zero, List.getElem_cons_succ, List.setIfInBounds_toArray, List.set_cons_zero, List.set_cons_succ]
  refine AU_one (i := 5) (o := _) (by kernel_rfl) rfl (fun K hK => ?_)
  have HH := Lib.hid hHeld
  have CC := Lib.hid (rnum_any (n := 4) H2.out.1 (by omega))
  clear hHeld
  go_simp
  refine CC.out.mono ?_
  rintro e wz3 ⟨rfl, hre⟩
  have H3 := Lib.hid (H2.out.trans hre)
  have hHeld : wz3.heap[X]? = some (Obj.cells #[.pointer (some ⟨R, 0, none⟩)] 76) := hre.keeps H2.out.1 HH.out (by decide)
  have HQ3 := Lib.hid (hre.keeps H2.out.1 HQ2.out (by decide))
  clear HH hre CC
  refine hK.out _ _ (fun _ => hHeld) ?_
  clear hK K
  try simp only [Act.put, List.getElem_toArray, List.getElem_cons_zero, List.getElem_cons_succ, List.setIfInBounds_toArray, List.set_cons_zero, List.set_cons_succ]
  refine AU_one (i := 7) (o := _) (by kernel_rfl) rfl (fun K hK => ?_)
  have HH := Lib.hid hHeld
  have CC := Lib.hid (lsl_any H3.out.1)
  clear hHeld
  go_simp
  refine CC.out.mono ?_
  rintro e wz4 ⟨v4, rfl, xs, hrv, hm, hre, hxo⟩
  have hxs : xs = (rCf s).1.xs := by
    have h1 : xs = (rLs rSl (Pk.nx 4 (Pk.nx 2 (Pk.nx 1 s).2).2).2).1 := by simpa using hm
    exact h1
  subst hxs
  obtain ⟨A1, c1, rfl, _⟩ := hrv.form
  have HS4 := Lib.hid (And.intro (show RV (fun b => B ≤ b) 49 2 encSl wz4 (.slice A1 (rCf s).1.xs.length c1) (rCf s).1.xs from hrv.keep fun b cur hb _ => ⟨Nat.le_trans (Nat.le_trans HL.out.2 H3.out.2.size) hb, rfl⟩) hxo)
  clear hrv hm hxo
  have H4 := Lib.hid (H3.out.trans hre)
  have hHeld : wz4.heap[X]? = some (Obj.cells #[.pointer (some ⟨R, 0, none⟩)] 76) := hre.keeps H3.out.1 HH.out (by decide)
  have HQ4 := Lib.hid (hre.keeps H3.out.1 HQ3.out (by decide))
  clear HH hre CC
  refine hK.out _ _ (fun _ => hHeld) ?_
  clear hK K
  try simp only [Act.put, List.getElem_toArray, List.getElem_cons_zero, List.getElem_cons_succ, List.setIfInBounds_toArray, List.set_cons_zero, List.set_cons_succ]
  refine AU_one (i := 9) (o := _) (by kernel_rfl) rfl (fun K hK => ?_)
  have HH := Lib.hid hHeld
  have CC := Lib.hid (lob_any (B := B) H4.out.1 (Nat.le_trans HL.out.2 H4.out.2.size))
  clear hHeld
  go_simp
  refine CC.out.mono ?_
  rintro e wz5 ⟨v5, rfl, ovs, hrv, hm, hre, hrt⟩
  obtain ⟨A2, c2, rfl, _⟩ := hrv.form
  have hlo : ovs.length = (rCf s).1.os.length := by rw [show (rCf s).1.os = (rLs rOm (rLs rSl (Pk.nx 4 (Pk.nx 2 (Pk.nx 1 s).2).2).2).2).1 from rfl, ← hm, List.length_map]
  rw [hlo] at hrv
  rw [hlo]
  have HS5 := Lib.hid (show CfT B wz5 s A1 c1 A2 c2 ovs from ⟨HS4.out.1.keep fun b cur h1 h2 => ⟨h1, (hre.keeps H4.out.1 h2 (by decide)).trans h2.symm⟩, HS4.out.2, hrv.keep fun b cur hb _ => ⟨Nat.le_trans (Nat.le_trans HL.out.2 H4.out.2.size) hb, rfl⟩, hm, hrt⟩)
  clear hrv hm hrt hlo
  have H5 := Lib.hid (H4.out.trans hre)
  have hHeld : wz5.heap[X]? = some (Obj.cells #[.pointer (some ⟨R, 0, none⟩)] 76) := hre.keeps H4.out.1 HH.out (by decide)
  have HQ5 := Lib.hid (hre.keeps H4.out.1 HQ4.out (by decide))
  clear HH hre CC
  refine hK.out _ _ (fun _ => hHeld) ?_
  clear hK K
  try simp only [Act.put, List.getElem_toArray, List.getElem_cons_zero, List.getElem_cons_succ, List.setIfInBounds_toArray, List.set_cons_zero, List.set_cons_succ]
  refine AUS_take (by kernel_rfl) rfl (i := 10) (oi := _) (v := ?vw106) rfl (by kernel_rfl) (by kernel_rfl) (by kernel_rfl) (fun _ _ _ h => h) (Or.inl ⟨by rfl, ?hz106⟩) hHeld ?rst106
  case hz106 => (intro wS hSw; clear hSw; go_simp; try with_reducible rfl)
  simp only [Act.put, List.getElem_toArray, List.getElem_cons_zero, List.getElem_cons_succ, List.setIfInBounds_toArray, List.set_cons_zero, List.set_cons_succ]
  refine AU_one (i := 11) (o := _) (by kernel_rfl) rfl (fun K hK => ?_)
  refine step_store_row rfl 29 (.tmp 2) (.tmp 13) rfl Q #[.int .i64 ((rCf s).1.co : Int), .int .i64 ((rCf s).1.fr : Int), .int .i64 ((rCf s).1.nm : Int), .slice A1 (rCf s).1.xs.length c1, .slice A2 (rCf s).1.os.length c2] rfl rfl 29 _ HQ5.out sizeC rfl (by simp [Value.oneCell']) ?_
  have ho : ∀ b, b ≠ Q → (wz5.setRow Q #[.int .i64 ((rCf s).1.co : Int), .int .i64 ((rCf s).1.fr : Int), .int .i64 ((rCf s).1.nm : Int), .slice A1 (rCf s).1.xs.length c1, .slice A2 (rCf s).1.os.length c2]).heap[b]? = wz5.heap[b]? := fun b hb => setRow_other wz5 Q b _ hb
  have hX2 : (wz5.setRow Q #[.int .i64 ((rCf s).1.co : Int), .int .i64 ((rCf s).1.fr : Int), .int .i64 ((rCf s).1.nm : Int), .slice A1 (rCf s).1.xs.length c1, .slice A2 (rCf s).1.os.length c2]).heap[X]? = some (Obj.cells #[.pointer (some ⟨R, 0, none⟩)] 76) := (ho X fun e => absurd (cells_ty (by rw [← e]; exact hHeld) HQ5.out) (by decide)).trans hHeld
  have HE := Lib.hid (And.intro (show (wz5.setRow Q #[.int .i64 ((rCf s).1.co : Int), .int .i64 ((rCf s).1.fr : Int), .int .i64 ((rCf s).1.nm : Int), .slice A1 (rCf s).1.xs.length c1, .slice A2 (rCf s).1.os.length c2]).heap[Q]? = some (Obj.cells #[.int .i64 ((rCf s).1.co : Int), .int .i64 ((rCf s).1.fr : Int), .int .i64 ((rCf s).1.nm : Int), .slice A1 (rCf s).1.xs.length c1, .slice A2 (rCf s).1.os.length c2] 29) from setRow_heap _ Q _ _ _ _ HQ5.out) (And.intro (show CfT B (wz5.setRow Q #[.int .i64 ((rCf s).1.co : Int), .int .i64 ((rCf s).1.fr : Int), .int .i64 ((rCf s).1.nm : Int), .slice A1 (rCf s).1.xs.length c1, .slice A2 (rCf s).1.os.length c2]) s A1 c1 A2 c2 ovs from HS5.out.keep fun b cur u hu hb => (ho b fun e => hu (cells_ty (by rw [← e]; exact hb) HQ5.out)).trans hb) (show RE w R (rCf s).2 (wz5.setRow Q #[.int .i64 ((rCf s).1.co : Int), .int .i64 ((rCf s).1.fr : Int), .int .i64 ((rCf s).1.nm : Int), .slice A1 (rCf s).1.xs.length c1, .slice A2 (rCf s).1.os.length c2]) from ⟨rd_row H5.out.1 HQ5.out (by decide) (by decide), grown_row H5.out.2 HL.out.1⟩)))
  refine hK.out _ _ (fun _ => hX2) ?_
  clear hK K ho hX2 hHeld
  try simp only [Act.put, List.getElem_toArray, List.getElem_cons_zero, List.getElem_cons_succ, List.setIfInBounds_toArray, List.set_cons_zero, List.set_cons_succ]
  refine AU_done (by kernel_rfl) ?_ _
  simp only [OnlyN]
  have HU := Lib.hid Try.underlying29
  go_wp2_with fail
  refine bodyPost_ret (results_cell_row (by rfl) _ _ Q 29 #[.int .i64 ((rCf s).1.co : Int), .int .i64 ((rCf s).1.fr : Int), .int .i64 ((rCf s).1.nm : Int), .slice A1 (rCf s).1.xs.length c1, .slice A2 (rCf s).1.os.length c2] (0, 0) _ (by rfl) HE.out.1 HU.out rfl sizeC) rfl ?_
  exact ⟨A1, c1, A2, c2, ovs, rfl, HE.out.2.1, HE.out.2.2⟩
end Go.Proofs.Ytmadldgajjgbmaa
