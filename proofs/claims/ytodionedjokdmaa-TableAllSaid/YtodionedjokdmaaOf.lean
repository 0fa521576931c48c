/- Add. -/
import Derived.Test.YtodionedjokdmaaOe
set_option linter.unusedVariables false
set_option linter.unusedSimpArgs false
namespace Go.Proofs.Ytodionedjokdmaa
open Go.RowKit
set_option linter.unusedVariables false
set_option linter.unusedSimpArgs false
section
variable {W w w' : World} {T T' : List Nat} {t : Nat} {M : Option Nat} {ns : List Nat} {G : Nat → Option Ob} {n c hm : Nat} {o ho : Ob}
/-- May it come in? -/
def may (G : Nat → Option Ob) (n : Nat) (o : Ob) : Bool := n != 0 && (!(G n).isSome && ((ctr G o.hm).isSome || (n == 1 && o.hm == 0)))
def addG (G : Nat → Option Ob) (n : Nat) (o : Ob) : Nat → Option Ob := match ctr G o.hm with
  | some h => updN (updN G o.hm (some { h with ks := h.ks.filter (· != n) ++ [n] })) n (some o)
  | none => updN G n (some o)
theorem ctr_some {h : Ob} (e : ctr G n = some h) : G n = some h := by
  unfold ctr at e
  exact (Option.filter_eq_some_iff.1 e).1
theorem map_some (m : Nat) (w : World) : (binOp .eql 90 (.map (some m)) (.map none)).run Try.prog w = .ok (.bool false) w := by kernel_rfl
theorem map_none (w : World) : (binOp .eql 90 (.map none) (.map none)).run Try.prog w = .ok (.bool true) w := by kernel_rfl
theorem lr_one {Q n : Nat} (h : w.heap[Q]? = some (Obj.cells #[.int .u64 (n : Int)] 28)) : LR inU w (some ⟨Q, 0, none⟩) [n] := fun i x hi => by
  match i with
  | 0 =>
    obtain rfl : n = x := by simpa using hi
    exact ⟨Q, 0, rfl, (Array.getElem?_eq_some_iff.1 h).1, by rw [cell_of_row _ _ _ _ _ (0, 0) h]; rfl⟩
  | i + 1 => simp at hi
theorem own_new (h : TS W T t M ns G w) {b : Nat} (hb : w.heap.size ≤ b) : own_ W T b := ⟨Nat.le_trans h.b.size hb, fun hm => by have := h.tl b hm; omega⟩
theorem frozen_below (hb : Below w.heap.size w w') {b i : Nat} (hl : b < w.heap.size) (hf : w.frozen? ⟨b, i, none⟩ = false) : w'.frozen? ⟨b, i, none⟩ = false := by
  rw [hb.frozen (p := ⟨b, i, none⟩) hl]; exact hf
theorem TS.some_ (h : TS W T t M ns G w) (hg : G n = some o) : ∃ m, M = some m := by
  rcases h.mp with ⟨_, _, h3⟩ | ⟨m, h1, _⟩
  · rw [h3 n] at hg; cases hg
  · exact ⟨m, h1⟩
theorem TS.mapG {m : Nat} (h : TS W T t (some m) ns G w) : own_ W T m ∧ MapG rdP w m ns.length ns (mpG G) := by
  rcases h.mp with ⟨e, _⟩ | ⟨m', e, h2⟩
  · cases e
  · injection e with e; rw [e]; exact h2
theorem mpG_upd (G : Nat → Option Ob) (n : Nat) (o : Ob) : mpG (updN G n (some o)) = updN (mpG G) n (some (some o.b)) := by
  funext k
  unfold mpG
  by_cases hk : k = n
  · subst hk; rw [updN_same, updN_same]; rfl
  · rw [updN_other _ _ hk, updN_other _ _ hk]
/-- It is put into the map. -/
theorem TS.put {m : Nat} (h : TS W T t (some m) ns G w) (hob : OB (own_ W T) w n o) (hG : G n = none) (hns : ns.length ≤ 1000000) :
    ∃ w', (Instr.mapUpdate 90 (.map (some m)) (.int .u64 (n : Int)) (.pointer (some ⟨o.b, 0, none⟩))).run Try.prog w = .ok () w' ∧ TS W T t (some m) (ns ++ [n]) (updN G n (some o)) w' ∧ Same T w w' := by
  obtain ⟨w', hrun, hm, ht⟩ := h.mapG.2.store Try.underlying90 rd_P (by unfold maxLen; omega) hob.2.1.1 (some o.b)
  have hn : n ∉ ns := fun hm => by
    have := (h.mem n).1 hm
    rw [hG] at this; cases this
  rw [if_neg hn, ← mpG_upd] at hm
  refine ⟨w', hrun, h.map ht (by rw [List.length_append]; exact hm) fun k o' hk => ?_⟩
  by_cases e : k = n
  · subst e; rw [updN_same] at hk; injection hk with hk; rw [← hk]; exact hob
  · rw [updN_other _ _ e] at hk; exact h.ob k o' hk
set_option maxHeartbeats 2000000 in
set_option maxRecDepth 100000 in
/-- It comes into a container. -/
theorem add_home (h : TS W T t M ns G w) (hob : OB (own_ W T) w n o) (hG : G n = none) (hc : ctr G o.hm = some ho) (hl : ho.ks.length ≤ 1000) (hns : ns.length ≤ 1000000) (h0 : n ≠ 0) :
    Calls Try.prog 14 #[.pointer (some ⟨t, 0, none⟩), .pointer (some ⟨o.b, 0, none⟩)] w fun e w' => e = .returned (.bool true) ∧ TS W T t M (ns ++ [n]) (addG G n o) w' ∧ Same T w w' := by
  have hGh := ctr_some hc
  obtain ⟨m, rfl⟩ := h.some_ hGh
  obtain ⟨b, kd, hm, ks, th, on⟩ := o
  obtain ⟨b', kd', hm', ks', th', on'⟩ := ho
  have CG := Lib.hid (get_any h hob.2.1.1)
  have CC := Lib.hid (cont_any h hob.2.1.2.1)
  simp only at hGh hc hl
  rw [hG, show pb none = .pointer none from rfl] at CG
  rw [show ctr G (Ob.hm ⟨b, kd, hm, ks, th, on⟩) = some ⟨b', kd', hm', ks', th', on'⟩ from hc, show pb (some ⟨b', kd', hm', ks', th', on'⟩) = .pointer (some ⟨b', 0, none⟩) from rfl] at CC
  obtain ⟨d1, _, d2, _⟩ := hob.cells
  have hoh := h.ob hm _ hGh
  obtain ⟨-, -, -, -, v, d3, hv⟩ := hoh.cells
  obtain ⟨A, cp, rfl, hcp, _, hlr⟩ := hv.form
  have hlt := hob.lt
  have hlth := hoh.lt
  simp only at d3 hcp hlr d1 d2 hlt hlth
  unfold inU at d1 d2
  have HF := Lib.hid (fun (wS : World) (hS : Below w.heap.size w wS) => (⟨by rw [hS.cell (p := ⟨b', 15, none⟩) hlth]; exact d3, by rw [hS.cell (p := ⟨b, 2, none⟩) hlt]; exact d1⟩ :
    wS.cell? ⟨b', 15, none⟩ = some (.slice A ks'.length cp) ∧ wS.cell? ⟨b, 2, none⟩ = some (.int .u64 (n : Int))))
  have HL := Lib.hid (And.intro hcp (And.intro hlr (And.intro hl hlth)))
  have HA := Lib.hid (And.intro h (And.intro hob (And.intro hoh (And.intro hG (And.intro hc (And.intro hGh hns))))))
  have q0 : ¬ (n : Int) = 0 := by omega
  have q1 : ((n : Int) == 0) = false := by simpa using q0
  clear h0 h hob hoh hv d3 hcp hlr hl hlt hlth hG hc hGh hns
  go_enter Try.func14, Try.ntmps14
  go_wp2_with fail
  refine CG.out.mono ?_; rintro e w1 ⟨rfl, rfl⟩
  go_wp2_with fail
  refine CC.out.mono ?_; rintro e w2 ⟨rfl, rfl⟩
  clear CG CC
  go_upto_region 7 with fail
  clear d1 d2 q0 q1
  refine region_AU (Z := fun j => j == 18) (S := fun w' => Below w2.heap.size w2 w') (by kernel_rfl) ((Below.refl _ _).drew) (fun hHeld => ?_)
  refine AUS_take (by kernel_rfl) rfl (i := 0) (oi := _) (v := ?vw1) rfl (by kernel_rfl) (by kernel_rfl) (by kernel_rfl) (fun _ _ _ h => h) (Or.inl ⟨by rfl, ?hz1⟩) hHeld ?rst1
  case hz1 => (intro wS hSw; clear hSw; go_simp; try with_reducible rfl)
  simp only [Act.put, List.getElem_toArray, List.getElem_cons_zero, List.getElem_cons_succ, List.setIfInBounds_toArray, List.set_cons_zero, List.set_cons_succ]
  refine AUS_take (by kernel_rfl) rfl (i := 1) (oi := _) (v := ?vw2) rfl (by kernel_rfl) (by kernel_rfl) (by kernel_rfl) (fun _ _ _ h => h) (Or.inl ⟨by rfl, ?hz2⟩) hHeld ?rst2
  case hz2 => (intro wS hSw; clear hSw; go_simp; try with_reducible rfl)
  simp only [Act.put, List.getElem_toArray, List.getElem_cons_zero, List.getElem_cons_succ, List.setIfInBounds_toArray, List.set_cons_zero, List.set_cons_succ]
  refine AUS_take (by kernel_rfl) rfl (i := 2) (oi := _) (v := ?vw3) rfl (by kernel_rfl) (by kernel_rfl) (by kernel_rfl) (fun _ _ _ h => h) (Or.inl ⟨by rfl, ?hz3⟩) hHeld ?rst3
  case hz3 => (intro wS hSw; clear hSw; go_simp; try with_reducible rfl)
  simp only [Act.put, List.getElem_toArray, List.getElem_cons_zero, List.getElem_cons_succ, List.setIfInBounds_toArray, List.set_cons_zero, List.set_cons_succ]
  refine AUS_take (by kernel_rfl) rfl (i := 3) (oi := _) (v := ?vw4) rfl (by kernel_rfl) (by kernel_rfl) (by kernel_rfl) (fun _ _ _ h => h) (Or.inl ⟨by rfl, ?hz4⟩) hHeld ?rst4
  case hz4 => (intro wS hSw; clear hSw; go_simp; try with_reducible rfl)
  simp only [Act.put, List.getElem_toArray, List.getElem_cons_zero, List.getElem_cons_succ, List.setIfInBounds_toArray, List.set_cons_zero, List.set_cons_succ]
  refine AUS_take (by kernel_rfl) rfl (i := 4) (oi := _) (v := ?vw5) rfl (by kernel_rfl) (by kernel_rfl) (by kernel_rfl) (fun _ _ _ h => h) (Or.inl ⟨by rfl, ?hz5⟩) hHeld ?rst5
  case hz5 => (intro wS hSw; obtain ⟨c1, c2⟩ := HF.out wS hSw; clear hSw; go_simp; try with_reducible rfl)
  simp only [Act.put, List.getElem_toArray, List.getElem_cons_zero, List.getElem_cons_succ, List.setIfInBounds_toArray, List.set_cons_zero, List.set_cons_succ]
  refine AUS_take (by kernel_rfl) rfl (i := 5) (oi := _) (v := ?vw6) rfl (by kernel_rfl) (by kernel_rfl) (by kernel_rfl) (fun _ _ _ h => h) (Or.inl ⟨by rfl, ?hz6⟩) hHeld ?rst6
  case hz6 => (intro wS hSw; clear hSw; go_simp; try with_reducible rfl)
  simp only [Act.put, List.getElem_toArray, List.getElem_cons_zero, List.getElem_cons_succ, List.setIfInBounds_toArray, List.set_cons_zero, List.set_cons_succ]
  refine AUS_take (by kernel_rfl) rfl (i := 6) (oi := _) (v := ?vw7) rfl (by kernel_rfl) (by kernel_rfl) (by kernel_rfl) (fun _ _ _ h => h) (Or.inl ⟨by rfl, ?hz7⟩) hHeld ?rst7
  case hz7 => (intro wS hSw; clear hSw; go_simp; try with_reducible rfl)
  simp only [Act.put, List.getElem_toArray, List.getElem_cons_zero, List.getElem_cons_succ, List.setIfInBounds_toArray, List.set_cons_zero, List.set_cons_succ]
  refine AUS_take (by kernel_rfl) rfl (i := 7) (oi := _) (v := ?vw8) rfl (by kernel_rfl) (by kernel_rfl) (by kernel_rfl) (fun _ _ _ h => h) (Or.inl ⟨by rfl, ?hz8⟩) hHeld ?rst8
  case hz8 => (intro wS hSw; clear hSw; go_simp; try with_reducible rfl)
  simp only [Act.put, List.getElem_toArray, List.getElem_cons_zero, List.getElem_cons_succ, List.setIfInBounds_toArray, List.set_cons_zero, List.set_cons_succ]
  refine AUS_take (by kernel_rfl) rfl (i := 8) (oi := _) (v := ?vw9) rfl (by kernel_rfl) (by kernel_rfl) (by kernel_rfl) (fun _ _ _ h => h) (Or.inl ⟨by rfl, ?hz9⟩) hHeld ?rst9
  case hz9 => (intro wS hSw; obtain ⟨c1, c2⟩ := HF.out wS hSw; clear hSw; go_simp; try with_reducible rfl)
  simp only [Act.put, List.getElem_toArray, List.getElem_cons_zero, List.getElem_cons_succ, List.setIfInBounds_toArray, List.set_cons_zero, List.set_cons_succ]
  refine AUS_take (by kernel_rfl) rfl (i := 10) (oi := _) (v := ?vw10) rfl (by kernel_rfl) (by kernel_rfl) (by kernel_rfl) (fun _ _ _ h => h) (Or.inl ⟨by rfl, ?hz10⟩) hHeld ?rst10
  case hz10 => (intro wS hSw; clear hSw; go_simp; try with_reducible rfl)
  simp only [Act.put, List.getElem_toArray, List.getElem_cons_zero, List.getElem_cons_succ, List.setIfInBounds_toArray, List.set_cons_zero, List.set_cons_succ]
  refine AUS_take (by kernel_rfl) rfl (i := 11) (oi := _) (v := ?vw11) rfl (by kernel_rfl) (by kernel_rfl) (by kernel_rfl) (fun _ _ _ h => h) (Or.inl ⟨by rfl, ?hz11⟩) hHeld ?rst11
  case hz11 => (intro wS hSw; clear hSw; go_simp; try with_reducible rfl)
  simp only [Act.put, List.getElem_toArray, List.getElem_cons_zero, List.getElem_cons_succ, List.setIfInBounds_toArray, List.set_cons_zero, List.set_cons_succ]
  refine AUS_take (by kernel_rfl) rfl (i := 12) (oi := _) (v := ?vw12) rfl (by kernel_rfl) (by kernel_rfl) (by kernel_rfl) (fun _ _ _ h => h) (Or.inl ⟨by rfl, ?hz12⟩) hHeld ?rst12
  case hz12 => (intro wS hSw; clear hSw; go_simp; try with_reducible rfl)
  simp only [Act.put, List.getElem_toArray, List.getElem_cons_zero, List.getElem_cons_succ, List.setIfInBounds_toArray, List.set_cons_zero, List.set_cons_succ]
  refine AUS_take (by kernel_rfl) rfl (i := 13) (oi := _) (v := ?vw13) rfl (by kernel_rfl) (by kernel_rfl) (by kernel_rfl) (fun _ _ _ h => h) (Or.inl ⟨by rfl, ?hz13⟩) hHeld ?rst13
  case hz13 => (intro wS hSw; obtain ⟨c1, c2⟩ := HF.out wS hSw; clear hSw; go_simp; try with_reducible rfl)
  simp only [Act.put, List.getElem_toArray, List.getElem_cons_zero, List.getElem_cons_succ, List.setIfInBounds_toArray, List.set_cons_zero, List.set_cons_succ]
  refine AU_two (i := 9) (j := 14) (by kernel_rfl) rfl rfl (fun K hK => ?_) (fun K hK => ?_)
  ·
    have HH := Lib.hid hHeld
    have CC := Lib.hid (without_any (w := w2.drew) (x := n) rfl (by have := HL.out.2.2.1; omega) HL.out.1 (HL.out.2.1.below hHeld))
    clear hHeld
    go_simp
    refine CC.out.mono ?_
    clear CC
    rintro e w5 ⟨v5, rfl, hv5, hb5⟩
    have hHeld := HH.out.trans (hb5.mono HH.out.size)
    have HV := Lib.hid (hv5.mono (own' := fun b => w2.heap.size ≤ b) fun b hb => Nat.le_trans HH.out.size hb)
    clear HH hv5
    clear hb5
    refine hK.out _ _ (fun _ => hHeld) ?_
    clear hK K
    try simp only [Act.put, List.getElem_toArray, List.getElem_cons_zero, List.getElem_cons_succ, List.setIfInBounds_toArray, List.set_cons_zero, List.set_cons_succ]
    refine AU_one (i := 14) (o := _) (by kernel_rfl) rfl (fun K hK => ?_)
    obtain ⟨Q, eQ⟩ : ∃ Q, w5.heap.size = Q := ⟨_, rfl⟩
    obtain ⟨w4, e4⟩ : ∃ w4, w5.alloc (Obj.cells #[.int .u64 (n : Int)] 28) = w4 := ⟨_, rfl⟩
    have hq := heap_alloc_new w5 (Obj.cells #[.int .u64 (n : Int)] 28)
    have hb4 := below_alloc1 w5 (Obj.cells #[.int .u64 (n : Int)] 28)
    rw [e4, eQ] at hq
    rw [e4] at hb4
    have HVN := Lib.hid (HV.out.below hb4)
    have HQ := Lib.hid (lr_one hq)
    have HE4 := Lib.hid (And.intro e4 eQ)
    have hHeld4 := hHeld.trans (hb4.mono hHeld.size)
    clear hq hb4 e4 eQ HV hHeld
    have hHeld := hHeld4
    clear hHeld4
    go_simp
    rw [HE4.out.1, HE4.out.2]
    refine hK.out _ _ (fun _ => hHeld) ?_
    clear hK K HE4
    try simp only [Act.put, List.getElem_toArray, List.getElem_cons_zero, List.getElem_cons_succ, List.setIfInBounds_toArray, List.set_cons_zero, List.set_cons_succ]
    refine AU_one (i := 15) (o := _) (by kernel_rfl) rfl (fun K hK => ?_)
    obtain ⟨v6, w6, hrun, hv6, S, ht6, hS6⟩ := append_u 27 HVN.out (ys := [n]) (by have := HL.out.2.2.1; have := List.length_filter_le (· != n) ks'; simp; omega) (some ⟨Q, 0, none⟩) 1 1 rfl (by simp) HQ.out
    have hHeld6 := hHeld.trans (ht6.below hHeld.size fun b hb => (hS6 b hb).1)
    have hv6' := hv6.mono (own' := fun b => w2.heap.size ≤ b) fun b hb => by
      rcases hb with hb | hb
      · exact hb
      · exact Nat.le_trans hHeld.size hb
    obtain ⟨A6, c6, rfl, _⟩ := hv6'.form
    obtain ⟨L6, eL6⟩ : ∃ L6, (ks'.filter (· != n) ++ [n]).length = L6 := ⟨_, rfl⟩
    rw [eL6] at hv6' hrun
    clear hv6 eL6
    have HV6 := Lib.hid hv6'
    clear hv6' HVN HQ ht6 hS6
    refine step_append (by rfl) _ _ _ _ (by rfl) _ _ _ (by rfl) (by rfl) w6 hrun ?_
    clear hHeld
    have hHeld := hHeld6
    refine hK.out _ _ (fun _ => hHeld) ?_
    clear hK K hrun hHeld6
    try simp only [Act.put, List.getElem_toArray, List.getElem_cons_zero, List.getElem_cons_succ, List.setIfInBounds_toArray, List.set_cons_zero, List.set_cons_succ]
    refine AU_one (i := 16) (o := _) (by kernel_rfl) rfl (fun K hK => ?_)
    go_simp
    refine hK.out _ _ (fun _ => hHeld) ?_
    clear hK K
    try simp only [Act.put, List.getElem_toArray, List.getElem_cons_zero, List.getElem_cons_succ, List.setIfInBounds_toArray, List.set_cons_zero, List.set_cons_succ]
    refine AUS_take (by kernel_rfl) rfl (i := 17) (oi := _) (v := ?vw51) rfl (by kernel_rfl) (by kernel_rfl) (by kernel_rfl) (fun _ _ _ h => h) (Or.inl ⟨by rfl, ?hz51⟩) hHeld ?rst51
    case hz51 => (intro wS hSw; clear hSw; go_simp; try with_reducible rfl)
    simp only [Act.put, List.getElem_toArray, List.getElem_cons_zero, List.getElem_cons_succ, List.setIfInBounds_toArray, List.set_cons_zero, List.set_cons_succ]
    refine AU_one (i := 18) (o := _) (by kernel_rfl) rfl (fun K hK => ?_)
    obtain ⟨h, hob, hoh, hG, hc, hGh, hns⟩ := HA.out
    obtain ⟨k1, k2⟩ := HF.out w6 hHeld
    have k3 := frozen_below hHeld HL.out.2.2.2 (hoh.frozen 15)
    have h6 := h.below hHeld
    obtain ⟨h7, hs7, ho7⟩ := h6.setk hGh (ks := ks'.filter (· != n) ++ [n]) (fun k hk => by
      rcases List.mem_append.1 hk with hk | hk
      · exact hoh.2.1.2.2 k (List.mem_filter.1 hk).1
      · rw [List.mem_singleton.1 hk]; exact hob.2.1.1) (HV6.out.mono fun b hb => own_new h hb)
    have ho8 := ho7 n _ (hob.below hHeld) (fun e => by rw [e, hGh] at hG; cases hG)
    obtain ⟨W7, e7⟩ : ∃ W7, w6.setCell ⟨b', 15, none⟩ (.slice A6 L6 c6) = W7 := ⟨_, rfl⟩
    simp only at h7 hs7 ho8
    rw [e7] at h7 hs7 ho8
    have H7 := Lib.hid (And.intro h7 (And.intro ((h.same hHeld).trans hs7) ho8))
    have HE7 := Lib.hid e7
    clear h hob hoh hG hGh h6 h7 hs7 ho7 ho8 e7 hns hc
    go_simp
    refine hK.out _ _ (fun hz => (by cases hz)) ?_
    clear hK K k1 k2 k3 hHeld
    refine AU_done (by kernel_rfl) ?_ _
    simp only [OnlyN]
    rw [HE7.out]
    clear HE7
    obtain ⟨h7, hs7, ho8⟩ := H7.out
    obtain ⟨h, hob, hoh, hG, hc, hGh, hns⟩ := HA.out
    have hGn : updN G hm (some ({ b := b', kd := kd', hm := hm', ks := ks'.filter (· != n) ++ [n], t := th', on := on' } : Ob)) n = none := by
      rw [updN_other _ _ (fun e => by rw [e, hGh] at hG; cases hG)]; exact hG
    obtain ⟨w9, hrun9, hT9, hs9⟩ := h7.drew.put (o := ⟨b, kd, hm, ks, th, on⟩) (ho8.below (Below.refl _ _).drew) hGn hns
    have HT := Lib.hid (show TS W T t (some m) (ns ++ [n]) (addG G n ⟨b, kd, hm, ks, th, on⟩) w9 ∧ Same T w2 w9 from ⟨by
      unfold addG
      rw [hc]
      exact hT9, hs7.trans hs9⟩)
    have ct := h7.cell
    obtain ⟨d1, _⟩ := ho8.cells
    unfold inU at d1
    simp only at d1 hrun9
    clear h7 hs7 ho8 h hob hoh hG hc hGh hns hGn hT9 hs9 H7 HA HF HL
    have qm := map_some m W7
    go_upto_region 10 with fail
    refine wp_region_still_tail 9 (by kernel_rfl) (by kernel_rfl) ?_
    rw [show ({ W7 with drawn := W7.drawn + 1 } : World) = W7.drew from rfl]
    simp only [List.take_succ_cons, List.take_zero, List.drop_succ_cons, List.drop_zero]
    repeat still_step
    refine wpStill_nil ?_
    go_wp2_with fail
    go_ret
    exact ⟨rfl, HT.out⟩
  ·
    obtain ⟨Q, eQ⟩ : ∃ Q, w2.heap.size = Q := ⟨_, rfl⟩
    obtain ⟨w4, e4⟩ : ∃ w4, (w2.alloc (Obj.cells #[.int .u64 (n : Int)] 28)).drew = w4 := ⟨_, rfl⟩
    have hq : (w2.alloc (Obj.cells #[.int .u64 (n : Int)] 28)).drew.heap[w2.heap.size]? = some (Obj.cells #[.int .u64 (n : Int)] 28) := heap_alloc_new w2 _
    have hb4 : Below w2.drew.heap.size w2.drew (w2.alloc (Obj.cells #[.int .u64 (n : Int)] 28)).drew := below_alloc1 w2.drew _
    rw [e4, eQ] at hq
    rw [e4] at hb4
    have HQ0 := Lib.hid (lr_one hq)
    have HE4 := Lib.hid (And.intro e4 eQ)
    have hHeld4 := hHeld.trans (hb4.mono hHeld.size)
    clear hq hb4 e4 eQ hHeld
    have hHeld := hHeld4
    clear hHeld4
    go_simp
    rw [HE4.out.1, HE4.out.2]
    refine hK.out _ _ (fun _ => hHeld) ?_
    clear hK K HE4
    try simp only [Act.put, List.getElem_toArray, List.getElem_cons_zero, List.getElem_cons_succ, List.setIfInBounds_toArray, List.set_cons_zero, List.set_cons_succ]
    refine AU_one (i := 9) (o := _) (by kernel_rfl) rfl (fun K hK => ?_)
    have HH := Lib.hid hHeld
    have CC := Lib.hid (without_any (w := w4) (x := n) rfl (by have := HL.out.2.2.1; omega) HL.out.1 (HL.out.2.1.below hHeld))
    clear hHeld
    go_simp
    refine CC.out.mono ?_
    clear CC
    rintro e w5 ⟨v5, rfl, hv5, hb5⟩
    have hHeld := HH.out.trans (hb5.mono HH.out.size)
    have HV := Lib.hid (hv5.mono (own' := fun b => w2.heap.size ≤ b) fun b hb => Nat.le_trans HH.out.size hb)
    clear HH hv5
    have HVN := Lib.hid HV.out
    have HQ := Lib.hid (HQ0.out.below hb5)
    clear HV HQ0
    clear hb5
    refine hK.out _ _ (fun _ => hHeld) ?_
    clear hK K
    try simp only [Act.put, List.getElem_toArray, List.getElem_cons_zero, List.getElem_cons_succ, List.setIfInBounds_toArray, List.set_cons_zero, List.set_cons_succ]
    refine AU_one (i := 15) (o := _) (by kernel_rfl) rfl (fun K hK => ?_)
    obtain ⟨v6, w6, hrun, hv6, S, ht6, hS6⟩ := append_u 27 HVN.out (ys := [n]) (by have := HL.out.2.2.1; have := List.length_filter_le (· != n) ks'; simp; omega) (some ⟨Q, 0, none⟩) 1 1 rfl (by simp) HQ.out
    have hHeld6 := hHeld.trans (ht6.below hHeld.size fun b hb => (hS6 b hb).1)
    have hv6' := hv6.mono (own' := fun b => w2.heap.size ≤ b) fun b hb => by
      rcases hb with hb | hb
      · exact hb
      · exact Nat.le_trans hHeld.size hb
    obtain ⟨A6, c6, rfl, _⟩ := hv6'.form
    obtain ⟨L6, eL6⟩ : ∃ L6, (ks'.filter (· != n) ++ [n]).length = L6 := ⟨_, rfl⟩
    rw [eL6] at hv6' hrun
    clear hv6 eL6
    have HV6 := Lib.hid hv6'
    clear hv6' HVN HQ ht6 hS6
    refine step_append (by rfl) _ _ _ _ (by rfl) _ _ _ (by rfl) (by rfl) w6 hrun ?_
    clear hHeld
    have hHeld := hHeld6
    refine hK.out _ _ (fun _ => hHeld) ?_
    clear hK K hrun hHeld6
    try simp only [Act.put, List.getElem_toArray, List.getElem_cons_zero, List.getElem_cons_succ, List.setIfInBounds_toArray, List.set_cons_zero, List.set_cons_succ]
    refine AU_one (i := 16) (o := _) (by kernel_rfl) rfl (fun K hK => ?_)
    go_simp
    refine hK.out _ _ (fun _ => hHeld) ?_
    clear hK K
    try simp only [Act.put, List.getElem_toArray, List.getElem_cons_zero, List.getElem_cons_succ, List.setIfInBounds_toArray, List.set_cons_zero, List.set_cons_succ]
    refine AUS_take (by kernel_rfl) rfl (i := 17) (oi := _) (v := ?vw101) rfl (by kernel_rfl) (by kernel_rfl) (by kernel_rfl) (fun _ _ _ h => h) (Or.inl ⟨by rfl, ?hz101⟩) hHeld ?rst101
    case hz101 => (intro wS hSw; clear hSw; go_simp; try with_reducible rfl)
    simp only [Act.put, List.getElem_toArray, List.getElem_cons_zero, List.getElem_cons_succ, List.setIfInBounds_toArray, List.set_cons_zero, List.set_cons_succ]
    refine AU_one (i := 18) (o := _) (by kernel_rfl) rfl (fun K hK => ?_)
    obtain ⟨h, hob, hoh, hG, hc, hGh, hns⟩ := HA.out
    obtain ⟨k1, k2⟩ := HF.out w6 hHeld
    have k3 := frozen_below hHeld HL.out.2.2.2 (hoh.frozen 15)
    have h6 := h.below hHeld
    obtain ⟨h7, hs7, ho7⟩ := h6.setk hGh (ks := ks'.filter (· != n) ++ [n]) (fun k hk => by
      rcases List.mem_append.1 hk with hk | hk
      · exact hoh.2.1.2.2 k (List.mem_filter.1 hk).1
      · rw [List.mem_singleton.1 hk]; exact hob.2.1.1) (HV6.out.mono fun b hb => own_new h hb)
    have ho8 := ho7 n _ (hob.below hHeld) (fun e => by rw [e, hGh] at hG; cases hG)
    obtain ⟨W7, e7⟩ : ∃ W7, w6.setCell ⟨b', 15, none⟩ (.slice A6 L6 c6) = W7 := ⟨_, rfl⟩
    simp only at h7 hs7 ho8
    rw [e7] at h7 hs7 ho8
    have H7 := Lib.hid (And.intro h7 (And.intro ((h.same hHeld).trans hs7) ho8))
    have HE7 := Lib.hid e7
    clear h hob hoh hG hGh h6 h7 hs7 ho7 ho8 e7 hns hc
    go_simp
    refine hK.out _ _ (fun hz => (by cases hz)) ?_
    clear hK K k1 k2 k3 hHeld
    refine AU_done (by kernel_rfl) ?_ _
    simp only [OnlyN]
    rw [HE7.out]
    clear HE7
    obtain ⟨h7, hs7, ho8⟩ := H7.out
    obtain ⟨h, hob, hoh, hG, hc, hGh, hns⟩ := HA.out
    have hGn : updN G hm (some ({ b := b', kd := kd', hm := hm', ks := ks'.filter (· != n) ++ [n], t := th', on := on' } : Ob)) n = none := by
      rw [updN_other _ _ (fun e => by rw [e, hGh] at hG; cases hG)]; exact hG
    obtain ⟨w9, hrun9, hT9, hs9⟩ := h7.drew.put (o := ⟨b, kd, hm, ks, th, on⟩) (ho8.below (Below.refl _ _).drew) hGn hns
    have HT := Lib.hid (show TS W T t (some m) (ns ++ [n]) (addG G n ⟨b, kd, hm, ks, th, on⟩) w9 ∧ Same T w2 w9 from ⟨by
      unfold addG
      rw [hc]
      exact hT9, hs7.trans hs9⟩)
    have ct := h7.cell
    obtain ⟨d1, _⟩ := ho8.cells
    unfold inU at d1
    simp only at d1 hrun9
    clear h7 hs7 ho8 h hob hoh hG hc hGh hns hGn hT9 hs9 H7 HA HF HL
    have qm := map_some m W7
    go_upto_region 10 with fail
    refine wp_region_still_tail 9 (by kernel_rfl) (by kernel_rfl) ?_
    rw [show ({ W7 with drawn := W7.drawn + 1 } : World) = W7.drew from rfl]
    simp only [List.take_succ_cons, List.take_zero, List.drop_succ_cons, List.drop_zero]
    repeat still_step
    refine wpStill_nil ?_
    go_wp2_with fail
    go_ret
    exact ⟨rfl, HT.out⟩
end
end Go.Proofs.Ytodionedjokdmaa
