/- ConfigBytes. -/
import Derived.Test.YtmadldgajjgbmaaHa
import Derived.Test.YtmadldgajjgbmaaFd
import Derived.Test.YtmadldgajjgbmaaGf
import Derived.Test.YtmadldgajjgbmaaHd
set_option linter.unusedVariables false
set_option linter.unusedSimpArgs false
namespace Go.Proofs.Ytmadldgajjgbmaa
open Go.RowKit
set_option linter.unusedVariables false
set_option linter.unusedSimpArgs false
/-- Bytes that were written, as they are read. -/
theorem EncE.br {W w : World} {bs : List Nat} {a : Option Addr} {c : Nat} (h : RW (fun b => W.heap.size ≤ b) 5 inB w (.slice a bs.length c) bs) : BR w a bs ∧ bs.length ≤ c ∧ (a = none → c = 0) := by
  obtain ⟨A, k, e, hk, _, hl⟩ := h.form
  injection e with e1 e2 e3
  subst e1 e3
  refine ⟨hl, hk, fun ha => ?_⟩
  rcases h with ⟨_, e⟩ | ⟨g, o, cap, cur, e, _⟩
  · injection e
  · injection e with e1; rw [ha] at e1; cases e1
/-- A byte of them is turned. -/
theorem row_byte {W w : World} {bs : List Nat} {a : Option Addr} {c i x : Nat} (h : RW (fun b => W.heap.size ≤ b) 5 inB w (.slice a bs.length c) bs) (hi : i < bs.length) (hb : ∀ y ∈ bs, y < 256) (hx : x < 256) :
    ∃ g o, a = some ⟨g, o, none⟩ ∧ W.heap.size ≤ g ∧ (∃ y, w.cell? ⟨g, o + i, none⟩ = some (.int .u8 y)) ∧ (∀ j, w.frozen? ⟨g, j, none⟩ = false) ∧ BR (w.setCell ⟨g, o + i, none⟩ (.int .u8 (x : Int))) a (bs.set i x) ∧ (∀ y ∈ bs.set i x, y < 256) := by
  rcases h with ⟨e, _⟩ | ⟨g, o, cap, cur, e, hg, hh, hc, hl, _, hr⟩
  · rw [e] at hi; simp at hi
  · injection e with e1 e2 e3
    subst e1
    have hset := heap_setCell_same w g (o + i) _ 5 (.int .u8 (x : Int)) hh
    refine ⟨g, o, rfl, hg, ⟨((bs[i]'hi : Nat) : Int), by rw [cell_of_row _ _ _ _ _ (0, 0) hh]; exact hr i _ (List.getElem?_eq_getElem hi)⟩, fun j => frozen_of_row _ _ _ _ _ hh, fun j y hj => ⟨g, o, rfl, (Array.getElem?_eq_some_iff.1 hset).1, ?_⟩, fun y hy => ?_⟩
    · rw [cell_of_row _ _ _ _ _ (0, 0) hset]
      by_cases e : j = i
      · subst e
        rw [List.getElem?_set_self hi] at hj
        obtain rfl := Option.some.inj hj
        rw [Array.getElem?_setIfInBounds_self_of_lt (by omega)]
      · rw [List.getElem?_set_ne (Ne.symm e)] at hj
        rw [Array.getElem?_setIfInBounds_ne (by omega)]
        exact hr j y hj
    · rcases List.mem_or_eq_of_mem_set hy with h | rfl
      · exact hb y h
      · exact hx
set_option maxHeartbeats 8000000 in
set_option maxRecDepth 100000 in
theorem bytes_all {W : World} {co fr nm at_ : Int} {x : Nat} {A1 A2 : Option Addr} {l1 l2 c1 c2 : Nat} {xs : List Sl} {ss : List Sd} (h : PlR W co fr nm A1 A2 l1 l2 xs ss) (hc1 : l1 ≤ c1) (hat : -9223372036854775808 ≤ at_ ∧ at_ ≤ 9223372036854775807) (hx : x < 256) :
    Calls Try.prog 5 #[.agg #[.int .i64 co, .int .i64 fr, .int .i64 nm, .slice A1 l1 c1, .slice A2 l2 c2], .int .i64 at_, .int .u8 (x : Int)] W (BB W true) := by
  have HP := Lib.hid h
  have HC := Lib.hid (And.intro hc1 (And.intro hat hx))
  obtain ⟨X, eX⟩ : ∃ X, W.heap.size = X := ⟨_, rfl⟩
  obtain ⟨w0, e0⟩ : ∃ w0, W.alloc (Obj.cells #[.int .i64 co, .int .i64 fr, .int .i64 nm, .slice A1 l1 c1, .slice A2 l2 c2] 25) = w0 := ⟨_, rfl⟩
  have hB0 := plan_new W co fr nm A1 l1 c1 A2 l2 c2
  rw [e0, eX] at hB0
  have HB := Lib.hid hB0
  have CF := Lib.hid (fit_any w0)
  clear h hc1 hB0 hat hx
  go_enter Try.func5, Try.ntmps5
  go_upto_region 1 with fail
  try rw [e0]
  try rw [eX]
  clear e0 eX
  go_wp2_with fail
  refine CF.out.mono ?_; rintro e w1 ⟨rfl, hb⟩
  have HB1 := Lib.hid (HB.out.below hb)
  clear hb CF HB
  obtain ⟨d0, d1, d2, d3, d4⟩ := HB1.out.cell
  have CL := Lib.hid (light_any (HP.out.below HB1.out.1) c1 c2)
  go_wp2_with fail
  refine CL.out.mono ?_; rintro e w2 ⟨q, rfl, hq, hb⟩
  have HB2 := Lib.hid (HB1.out.below hb)
  clear hb CL HB1 d0 d1 d2 d3 d4
  cases q
  · go_wp2_with fail
    go_ret
    exact ⟨rfl, HB2.out.1⟩
  have HL := Lib.hid (hq rfl)
  clear hq
  obtain ⟨d0, d1, d2, d3, d4⟩ := HB2.out.cell
  have CC := Lib.hid (config_any (HP.out.below HB2.out.1) c1 c2 HC.out.1 HL.out)
  go_wp2_with fail
  refine CC.out.mono ?_; rintro e w3 ⟨vs, vo, ovs, rfl, hvs, hvo, hom, hown, hb⟩
  have HB3 := Lib.hid (HB2.out.below hb)
  clear hb CC HB2 d0 d1 d2 d3 d4
  obtain ⟨B1, k1, B2, k2, rfl, rfl, hcf, hk2⟩ := cfr_of hvs hvo hom hown HL.out HP.out.n1.1 HP.out.n2.1 HP.out.o1
  have CR := lright_any (co := co) (fr := fr) (nm := nm) hcf k1 k2
  rw [hom] at CR
  obtain ⟨rb, erb⟩ : ∃ rb, rightB co fr nm xs (ss.map cfgO) = rb := ⟨_, rfl⟩
  rw [erb] at CR
  have CR := Lib.hid CR
  have HRB := Lib.hid erb
  clear hvs hvo hom hown hcf hk2 erb
  go_wp2_with fail
  refine CR.out.mono ?_; rintro e w4 ⟨rfl, hb⟩
  have HB4 := Lib.hid (HB3.out.below hb)
  clear hb CR HB3
  cases rb
  · go_wp2_with fail
    go_ret
    exact ⟨rfl, HB4.out.1⟩
  obtain ⟨d0, d1, d2, d3, d4⟩ := HB4.out.cell
  have CC := Lib.hid (config_any (HP.out.below HB4.out.1) c1 c2 HC.out.1 HL.out)
  go_wp2_with fail
  refine CC.out.mono ?_; rintro e w5 ⟨vs, vo, ovs2, rfl, hvs, hvo, hom, hown, hb⟩
  have HB5 := Lib.hid (HB4.out.below hb)
  clear hb CC HB4 d0 d1 d2 d3 d4
  obtain ⟨E1, m1, E2, m2, rfl, rfl, hcf, hk2⟩ := cfr_of hvs hvo hom hown HL.out HP.out.n1.1 HP.out.n2.1 HP.out.o1
  obtain ⟨bs, ebs⟩ : ∃ bs, encCf co fr nm xs (ss.map cfgO) = bs := ⟨_, rfl⟩
  have hsh := enc_short HRB.out
  have hnf0 : ∀ o ∈ ss.map cfgO, Nf o := fun o ho => by
    obtain ⟨s, _, rfl⟩ := List.mem_map.1 ho
    exact cfgO_nf s
  have CE := encode_any (co := co) (fr := fr) (nm := nm) (c1 := m1) (c2 := m2) hcf (by rw [hom]; exact cfn_of HRB.out hnf0) (by rw [hom]; exact hsh.1)
  rw [hom, ebs] at CE
  rw [ebs] at hsh
  have CE := Lib.hid CE
  have HSH := Lib.hid hsh
  clear hvs hvo hom hown hcf hk2 hsh ebs hnf0
  go_wp2_with fail
  refine CE.out.mono ?_; rintro e w6 ⟨a, c, rfl, hrw, h256, hb⟩
  have HB6 := Lib.hid (HB5.out.below hb)
  have HRW := Lib.hid (And.intro hrw h256)
  have HW5 := Lib.hid HB5.out.1.size
  clear hb CE HB5 hrw h256
  obtain ⟨L, eL⟩ : ∃ L, bs.length = L := ⟨_, rfl⟩
  have hLL : 0 < L ∧ L ≤ 100000 := by rw [← eL]; exact ⟨HSH.out.2, HSH.out.1⟩
  obtain ⟨r1, er1, hr1⟩ : ∃ r1, at_.tmod (L : Int) = r1 ∧ -(L : Int) < r1 ∧ r1 < L := ⟨_, rfl, by have := Int.lt_tmod_of_pos at_ (b := (L : Int)) (by omega); have := Int.tmod_lt_of_pos at_ (b := (L : Int)) (by omega); omega⟩
  obtain ⟨r, er, hr⟩ : ∃ r : Nat, (r1 + (L : Int)).tmod (L : Int) = (r : Int) ∧ r < L := ⟨((r1 + L) % (L : Int)).toNat, by rw [Int.tmod_eq_emod_of_nonneg (by omega)]; have := Int.emod_nonneg (r1 + L) (b := (L : Int)) (by omega); omega, by have := Int.emod_lt_of_pos (r1 + L) (b := (L : Int)) (by omega); omega⟩
  have i1 : IntKind.i64.wrap r1 = r1 := by rw [IntKind.wrap_i64]; omega
  have i2 : IntKind.i64.wrap (r1 + (L : Int)) = r1 + L := by rw [IntKind.wrap_i64]; omega
  have i3 : IntKind.i64.wrap (r : Int) = r := by rw [IntKind.wrap_i64]; omega
  have q0 : ((L : Int) == 0) = false := by rw [beq_eq_false_iff_ne]; omega
  have q1 : ¬ (L : Int) = 0 := by omega
  have q2 : (r : Int) < L := by omega
  have q3 : (0 : Int) ≤ (r : Int) := by omega
  have q4 : r < L := hr
  obtain ⟨g, o, rfl, hg, ⟨y, hy⟩, hf, hbr, hb256⟩ := row_byte HRW.out.1 (i := r) (x := x) (by rw [eL]; exact hr) HRW.out.2 HC.out.2.2
  obtain ⟨hbr0, hlc, hcn⟩ := EncE.br HRW.out.1
  obtain ⟨bs2, ebs2⟩ : ∃ bs2, bs.set r x = bs2 := ⟨_, rfl⟩
  rw [ebs2] at hbr hb256
  obtain ⟨w7, e7⟩ : ∃ w7, w6.setCell ⟨g, o + r, none⟩ (.int .u8 (x : Int)) = w7 := ⟨_, rfl⟩
  rw [e7] at hbr
  have hB7 : Below W.heap.size W w7 := by rw [← e7]; exact HB6.out.1.setCell (p := ⟨g, o + r, none⟩) (Nat.le_trans HW5.out hg) _
  have hl2 : bs2.length = L := by rw [← ebs2, List.length_set]; exact eL
  have CD := Lib.hid (decode_any (W := w7) (n := L) (c := c) hbr hl2 (by omega) (fun h => by cases h) hb256)
  have H7 := Lib.hid (And.intro hB7 (And.intro hbr (And.intro hb256 (And.intro hl2 (And.intro hLL.2 hlc)))))
  rw [eL]
  have hf1 := hf (o + r)
  clear hg hf hbr hb256 hbr0 hcn ebs2 hB7 hl2 hLL hlc hr1 hr eL
  go_upto_region 7 with fail
  try rw [e7]
  clear e7 hy hf1 er1 er i1 i2 i3 q0 q1 q2 q3 q4
  go_wp2_with fail
  refine CD.out.mono ?_; rintro e w8 (⟨hz, hrt, D1, d1, D2, d2, ovs3, rfl, hcf, hom, hd2, hb⟩ | ⟨_, rfl, hb⟩)
  case inr =>
    go_upto_region 8 with fail
    obtain ⟨w9, e9⟩ : ∃ w9, w8.alloc (Obj.cells #[.int .i64 0, .int .i64 0, .int .i64 0, .slice none 0 0, .slice none 0 0] 29) = w9 := ⟨_, rfl⟩
    obtain ⟨Z, eZ⟩ : ∃ Z, w8.heap.size = Z := ⟨_, rfl⟩
    have hb9 : Below w8.heap.size w8 w9 := by rw [← e9]; exact below_alloc1 w8 _
    have hZ9 : w9.heap[Z]? = some (Obj.cells #[.int .i64 0, .int .i64 0, .int .i64 0, .slice none 0 0, .slice none 0 0] 29) := by rw [← e9, ← eZ]; exact heap_alloc_new w8 _
    have z0 : w9.cell? ⟨Z, 0, none⟩ = some (.int .i64 0) := by rw [cell_of_row _ _ _ _ _ (0, 0) hZ9]; rfl
    have z4 : w9.cell? ⟨Z, 4, none⟩ = some (.slice none 0 0) := by rw [cell_of_row _ _ _ _ _ (0, 0) hZ9]; rfl
    have HF := Lib.hid (H7.out.1.trans ((hb.trans (hb9.mono hb.size)).mono H7.out.1.size))
    clear hb hb9 hZ9 CD
    try rw [e9]
    try rw [eZ]
    clear e9 eZ
    go_wp2_with fail
    go_ret
    exact ⟨rfl, HF.out⟩
  have HKEEP := Lib.hid (And.intro hz (And.intro hrt (And.intro hcf (And.intro hom (And.intro hd2 hb)))))
  clear hz hrt hcf hom hd2 hb
  go_upto_region 8 with fail
  obtain ⟨hz, hrt, hcf, hom, hd2, hb⟩ := HKEEP.out
  obtain ⟨w9, e9⟩ : ∃ w9, w8.alloc (Obj.cells #[.int .i64 ((rCf (bs2, false)).1.co : Int), .int .i64 ((rCf (bs2, false)).1.fr : Int), .int .i64 ((rCf (bs2, false)).1.nm : Int), .slice D1 (rCf (bs2, false)).1.xs.length d1, .slice D2 (rCf (bs2, false)).1.os.length d2] 29) = w9 := ⟨_, rfl⟩
  obtain ⟨Z, eZ⟩ : ∃ Z, w8.heap.size = Z := ⟨_, rfl⟩
  have hb9 : Below w8.heap.size w8 w9 := by rw [← e9]; exact below_alloc1 w8 _
  have hZ9 : w9.heap[Z]? = some (Obj.cells #[.int .i64 ((rCf (bs2, false)).1.co : Int), .int .i64 ((rCf (bs2, false)).1.fr : Int), .int .i64 ((rCf (bs2, false)).1.nm : Int), .slice D1 (rCf (bs2, false)).1.xs.length d1, .slice D2 (rCf (bs2, false)).1.os.length d2] 29) := by rw [← e9, ← eZ]; exact heap_alloc_new w8 _
  have hB79 : Below w7.heap.size w7 w9 := hb.trans (hb9.mono hb.size)
  obtain ⟨hs2, hsa, hsb, hnf⟩ := rCf_snd (bs2, false) H7.out.2.2.1 (by rw [hz])
  rw [hz, List.append_nil] at hsa
  have hs1 : bs2 = encCf (rCf (bs2, false)).1.co (rCf (bs2, false)).1.fr (rCf (bs2, false)).1.nm (rCf (bs2, false)).1.xs (rCf (bs2, false)).1.os := hsa
  have hE := encode_any (W := w9) (co := ((rCf (bs2, false)).1.co : Int)) (fr := ((rCf (bs2, false)).1.fr : Int)) (nm := ((rCf (bs2, false)).1.nm : Int)) (c1 := d1) (c2 := d2) (hcf.below hb9) (by rw [hom]; exact cfn_of hrt hnf) (by rw [hom, ← hs1, H7.out.2.2.2.1]; exact H7.out.2.2.2.2.1)
  have HE := Lib.hid (show ∀ wS, Below w9.heap.size w9 wS → Calls Try.prog 12 #[.agg #[.int .i64 ((rCf (bs2, false)).1.co : Int), .int .i64 ((rCf (bs2, false)).1.fr : Int), .int .i64 ((rCf (bs2, false)).1.nm : Int), .slice D1 (rCf (bs2, false)).1.xs.length d1, .slice D2 (rCf (bs2, false)).1.os.length d2]] wS (EncE wS bs2) from fun wS hS => by
    have hE := encode_any (W := wS) (co := ((rCf (bs2, false)).1.co : Int)) (fr := ((rCf (bs2, false)).1.fr : Int)) (nm := ((rCf (bs2, false)).1.nm : Int)) (c1 := d1) (c2 := d2) ((hcf.below hb9).below hS) (by rw [hom]; exact cfn_of hrt hnf) (by rw [hom, ← hs1, H7.out.2.2.2.1]; exact H7.out.2.2.2.2.1)
    rw [hom, ← hs1] at hE
    exact hE)
  have HR := Lib.hid (show ∀ wS, Below w9.heap.size w9 wS → Calls Try.prog 11 #[.agg #[.int .i64 ((rCf (bs2, false)).1.co : Int), .int .i64 ((rCf (bs2, false)).1.fr : Int), .int .i64 ((rCf (bs2, false)).1.nm : Int), .slice D1 (rCf (bs2, false)).1.xs.length d1, .slice D2 (rCf (bs2, false)).1.os.length d2]] wS (BB wS true) from fun wS hS => by
    have hR := lright_any (co := ((rCf (bs2, false)).1.co : Int)) (fr := ((rCf (bs2, false)).1.fr : Int)) (nm := ((rCf (bs2, false)).1.nm : Int)) ((hcf.below hb9).below hS) d1 d2
    rw [hom, hrt] at hR
    exact hR)
  obtain ⟨st, est⟩ : ∃ st, Str bs2 = st := ⟨_, rfl⟩
  have HST := Lib.hid est
  have HCV := Lib.hid (show ∀ wS, Below w9.heap.size w9 wS → (convert 33 9 (.slice (some ⟨g, o, none⟩) L c)).run Try.prog wS = .ok (.string st) wS from fun wS hS => by
    rw [← HST.out]; exact conv_bytes wS _ L c bs2 H7.out.2.2.2.1 ((H7.out.2.1.below hB79).below hS))
  have HBB := Lib.hid (show Below W.heap.size W w9 from H7.out.1.trans (hB79.mono H7.out.1.size))
  have HZ := Lib.hid hZ9
  clear est hE hs1 hsa hsb hs2 hnf hz hrt hcf hom hd2 hb hb9 hZ9 hB79 CD HKEEP
  try rw [e9]
  try rw [eZ]
  clear e9 eZ
  go_upto_region 10 with fail
  obtain ⟨V0, V1, V2, n3, n4, eV⟩ : ∃ V0 V1 V2 n3 n4, V0 = ((rCf (bs2, false)).1.co : Int) ∧ V1 = ((rCf (bs2, false)).1.fr : Int) ∧ V2 = ((rCf (bs2, false)).1.nm : Int) ∧ n3 = (rCf (bs2, false)).1.xs.length ∧ n4 = (rCf (bs2, false)).1.os.length := ⟨_, _, _, _, _, rfl, rfl, rfl, rfl, rfl⟩
  rw [← eV.1, ← eV.2.1, ← eV.2.2.1, ← eV.2.2.2.1, ← eV.2.2.2.2] at HE HR HZ
  try rw [← eV.1]
  try rw [← eV.2.1]
  try rw [← eV.2.2.1]
  try rw [← eV.2.2.2.1]
  try rw [← eV.2.2.2.2]
  clear eV
  have HF := Lib.hid (fun (wS : World) (hS : Below w9.heap.size w9 wS) => (show wS.cell? ⟨Z, 0, none⟩ = some (.int .i64 V0) ∧ wS.cell? ⟨Z, 1, none⟩ = some (.int .i64 V1) ∧ wS.cell? ⟨Z, 2, none⟩ = some (.int .i64 V2) ∧ wS.cell? ⟨Z, 3, none⟩ = some (.slice D1 n3 d1) ∧ wS.cell? ⟨Z, 4, none⟩ = some (.slice D2 n4 d2) ∧ (convert 33 9 (.slice (some ⟨g, o, none⟩) L c)).run Try.prog wS = .ok (.string st) wS from by
    have h1 := (hS.block _ (Array.getElem?_eq_some_iff.1 HZ.out).1).trans HZ.out
    refine ⟨?_, ?_, ?_, ?_, ?_, HCV.out wS hS⟩ <;> (rw [cell_of_row _ _ _ _ _ (0, 0) h1]; rfl)))
  refine region_AU (Z := fun j => false) (S := fun w' => Below w9.heap.size w9 w') (by kernel_rfl) ((Below.refl _ _).drew) (fun hHeld => ?_)
  refine AUS_take (by kernel_rfl) rfl (i := 0) (oi := _) (v := ?vw101) rfl (by kernel_rfl) (by kernel_rfl) (by kernel_rfl) (fun _ _ _ h => h) (Or.inl ⟨by rfl, ?hz101⟩) hHeld ?rst101
  case hz101 => (intro wS hSw; obtain ⟨f0, f1, f2, f3, f4, f5⟩ := HF.out wS hSw; clear hSw; go_simp; try with_reducible rfl)
  simp only [Act.put, List.getElem_toArray, List.getElem_cons_zero, List.getElem_cons_succ, List.setIfInBounds_toArray, List.set_cons_zero, List.set_cons_succ]
  refine AU_one (i := 1) (o := _) (by kernel_rfl) rfl (fun K hK => ?_)
  have HH := Lib.hid hHeld
  have CC := Lib.hid (HR.out _ hHeld)
  clear hHeld
  go_simp
  refine CC.out.mono ?_
  rintro e wz1 ⟨rfl, hb⟩
  have hHeld := HH.out.trans (hb.mono HH.out.size)
  clear HH hb CC
  refine hK.out _ _ (fun _ => hHeld) ?_
  clear hK K
  try simp only [Act.put, List.getElem_toArray, List.getElem_cons_zero, List.getElem_cons_succ, List.setIfInBounds_toArray, List.set_cons_zero, List.set_cons_succ]
  refine AUS_take (by kernel_rfl) rfl (i := 2) (oi := _) (v := ?vw102) rfl (by kernel_rfl) (by kernel_rfl) (by kernel_rfl) (fun _ _ _ h => h) (Or.inl ⟨by rfl, ?hz102⟩) hHeld ?rst102
  case hz102 => (intro wS hSw; clear hSw; go_simp; try with_reducible rfl)
  simp only [Act.put, List.getElem_toArray, List.getElem_cons_zero, List.getElem_cons_succ, List.setIfInBounds_toArray, List.set_cons_zero, List.set_cons_succ]
  refine AUS_take (by kernel_rfl) rfl (i := 3) (oi := _) (v := ?vw103) rfl (by kernel_rfl) (by kernel_rfl) (by kernel_rfl) (fun _ _ _ h => h) (Or.inl ⟨by rfl, ?hz103⟩) hHeld ?rst103
  case hz103 => (intro wS hSw; obtain ⟨f0, f1, f2, f3, f4, f5⟩ := HF.out wS hSw; clear hSw; go_simp; try with_reducible rfl)
  simp only [Act.put, List.getElem_toArray, List.getElem_cons_zero, List.getElem_cons_succ, List.setIfInBounds_toArray, List.set_cons_zero, List.set_cons_succ]
  refine AUS_take (by kernel_rfl) rfl (i := 6) (oi := _) (v := ?vw104) rfl (by kernel_rfl) (by kernel_rfl) (by kernel_rfl) (fun _ _ _ h => h) (Or.inl ⟨by rfl, ?hz104⟩) hHeld ?rst104
  case hz104 => (intro wS hSw; clear hSw; go_simp; try with_reducible rfl)
  simp only [Act.put, List.getElem_toArray, List.getElem_cons_zero, List.getElem_cons_succ, List.setIfInBounds_toArray, List.set_cons_zero, List.set_cons_succ]
  refine AUS_take (by kernel_rfl) rfl (i := 7) (oi := _) (v := ?vw105) rfl (by kernel_rfl) (by kernel_rfl) (by kernel_rfl) (fun _ _ _ h => h) (Or.inl ⟨by rfl, ?hz105⟩) hHeld ?rst105
  case hz105 => (intro wS hSw; obtain ⟨f0, f1, f2, f3, f4, f5⟩ := HF.out wS hSw; clear hSw; go_simp; try with_reducible rfl)
  simp only [Act.put, List.getElem_toArray, List.getElem_cons_zero, List.getElem_cons_succ, List.setIfInBounds_toArray, List.set_cons_zero, List.set_cons_succ]
  refine AU_one (i := 4) (o := _) (by kernel_rfl) rfl (fun K hK => ?_)
  have HH := Lib.hid hHeld
  have CC := Lib.hid (HE.out _ hHeld)
  clear hHeld
  go_simp
  refine CC.out.mono ?_
  rintro e wz2 ⟨ae, ce, rfl, hrw, h256, hb⟩
  have hHeld := HH.out.trans (hb.mono HH.out.size)
  have HCE := conv_bytes wz2 ae bs2.length ce bs2 rfl (EncE.br hrw).1
  rw [HST.out] at HCE
  have HCE := Lib.hid HCE
  clear HH hb CC hrw h256
  refine hK.out _ _ (fun _ => hHeld) ?_
  clear hK K
  try simp only [Act.put, List.getElem_toArray, List.getElem_cons_zero, List.getElem_cons_succ, List.setIfInBounds_toArray, List.set_cons_zero, List.set_cons_succ]
  refine AU_one (i := 5) (o := _) (by kernel_rfl) rfl (fun K hK => ?_)
  have f5 := HCE.out
  go_simp
  clear f5
  refine hK.out _ _ (fun _ => hHeld) ?_
  clear hK K
  try simp only [Act.put, List.getElem_toArray, List.getElem_cons_zero, List.getElem_cons_succ, List.setIfInBounds_toArray, List.set_cons_zero, List.set_cons_succ]
  refine AUS_take (by kernel_rfl) rfl (i := 8) (oi := _) (v := ?vw106) rfl (by kernel_rfl) (by kernel_rfl) (by kernel_rfl) (fun _ _ _ h => h) (Or.inl ⟨by rfl, ?hz106⟩) hHeld ?rst106
  case hz106 => (intro wS hSw; clear hSw; go_simp; try with_reducible rfl)
  simp only [Act.put, List.getElem_toArray, List.getElem_cons_zero, List.getElem_cons_succ, List.setIfInBounds_toArray, List.set_cons_zero, List.set_cons_succ]
  refine AUS_take (by kernel_rfl) rfl (i := 9) (oi := _) (v := ?vw107) rfl (by kernel_rfl) (by kernel_rfl) (by kernel_rfl) (fun _ _ _ h => h) (Or.inl ⟨by rfl, ?hz107⟩) hHeld ?rst107
  case hz107 => (intro wS hSw; clear hSw; go_simp; try with_reducible rfl)
  simp only [Act.put, List.getElem_toArray, List.getElem_cons_zero, List.getElem_cons_succ, List.setIfInBounds_toArray, List.set_cons_zero, List.set_cons_succ]
  refine AUS_take (by kernel_rfl) rfl (i := 10) (oi := _) (v := ?vw108) rfl (by kernel_rfl) (by kernel_rfl) (by kernel_rfl) (fun _ _ _ h => h) (Or.inl ⟨by rfl, ?hz108⟩) hHeld ?rst108
  case hz108 => (intro wS hSw; clear hSw; go_simp; try with_reducible rfl)
  simp only [Act.put, List.getElem_toArray, List.getElem_cons_zero, List.getElem_cons_succ, List.setIfInBounds_toArray, List.set_cons_zero, List.set_cons_succ]
  refine AU_done (by kernel_rfl) ?_ _
  simp only [OnlyN]
  have HFin := Lib.hid (HBB.out.trans (hHeld.mono HBB.out.size))
  clear hHeld
  go_wp2_with fail
  go_ret
  exact ⟨by simp, HFin.out⟩
theorem by_law (u : Value) (x1 : Int) (x2 : Nat) (W : World) (g : CameP W u) (h1 : -9223372036854775808 ≤ x1 ∧ x1 ≤ 9223372036854775807) (h2 : x2 < 256) : Calls Try.prog 5 #[u, .int .i64 x1, inB x2] W fun e w' => e = .returned (.bool true) ∧ Below W.heap.size W w' := by
  obtain ⟨co, fr, nm, A1, A2, l1, c1, l2, c2, xs, ss, rfl, hb, ⟨a1, a2, a3, a4, a5, a6⟩, b1, b2, b3, b4, b5, b6⟩ := g
  exact bytes_all ⟨hb, ⟨a3, a4⟩, a5, a6, ⟨b3, b4⟩, b5, b6⟩ a1 h1 h2
end Go.Proofs.Ytmadldgajjgbmaa
