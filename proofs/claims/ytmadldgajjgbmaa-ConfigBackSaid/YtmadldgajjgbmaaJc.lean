/- ConfigBack. -/
import Derived.Test.YtmadldgajjgbmaaJb
set_option linter.unusedVariables false
set_option linter.unusedSimpArgs false
namespace Go.Proofs.Ytmadldgajjgbmaa
open Go.RowKit
set_option linter.unusedVariables false
set_option linter.unusedSimpArgs false
section
variable {W w' : World} {e : Ending} {co fr nm : Int} {xs : List Sl} {os : List Om} {l1 l2 : Nat}
/-- A configuration that may be comes back from its bytes. -/
theorem dec_ok (h : rightB co fr nm xs os = true) (hn : ∀ o ∈ os, Nf o) (h1 : xs.length = l1) (h2 : os.length = l2) (hd : DecE W (encCf co fr nm xs os) e w') :
    ∃ D1 d1 D2 d2 ovs2, e = .returned (.tuple #[.agg #[.int .i64 co, .int .i64 fr, .int .i64 nm, .slice D1 l1 d1, .slice D2 l2 d2], .int .i64 0]) ∧ CfR w' D1 D2 l1 l2 xs ovs2 ∧ ovs2.map Ov.m = os ∧ Below W.heap.size W w' := by
  have hc := cfn_of h hn
  have e1 := rCf_cmp [] hc
  rw [List.append_nil] at e1
  have hh := h
  unfold rightB at hh
  simp only [Bool.and_eq_true] at hh
  have hq := hh.1.1
  unfold hdrB at hq
  simp only [decide_eq_true_eq] at hq
  have i1 : ((co.toNat : Nat) : Int) = co := Int.toNat_of_nonneg (by omega)
  have i2 : ((fr.toNat : Nat) : Int) = fr := Int.toNat_of_nonneg (by omega)
  have i3 : ((nm.toNat : Nat) : Int) = nm := Int.toNat_of_nonneg (by omega)
  subst h1 h2
  unfold DecE at hd
  rw [e1] at hd
  simp only [i1, i2, i3] at hd
  rcases hd with ⟨_, _, D1, d1, D2, d2, ovs2, he, hcf, hm, _, hb⟩ | ⟨hno, _, _⟩
  · exact ⟨D1, d1, D2, d2, ovs2, he, hcf, hm, hb⟩
  · exact (hno (by first | exact ⟨rfl, h⟩ | exact ⟨trivial, h⟩ | simpa using h)).elim
/-- With bytes more, there is none. -/
theorem dec_more {t : List Nat} (h : rightB co fr nm xs os = true) (hn : ∀ o ∈ os, Nf o) (ht : t ≠ []) (hd : DecE W (encCf co fr nm xs os ++ t) e w') : e = .returned (.tuple #[.agg #[.int .i64 0, .int .i64 0, .int .i64 0, .slice none 0 0, .slice none 0 0], .int .i64 10]) ∧ Below W.heap.size W w' := by
  have e1 := rCf_cmp t (cfn_of h hn)
  unfold DecE at hd
  rw [e1] at hd
  rcases hd with ⟨h1, _⟩ | ⟨_, he, hb⟩
  · injection h1 with h1; exact (ht h1).elim
  · exact ⟨he, hb⟩
/-- With bytes less, there is none. -/
theorem dec_less {bs t : List Nat} (h : rightB co fr nm xs os = true) (hn : ∀ o ∈ os, Nf o) (ht : t ≠ []) (hbs : encCf co fr nm xs os = bs ++ t) (hb : ∀ c ∈ bs, c < 256) (hd : DecE W bs e w') : e = .returned (.tuple #[.agg #[.int .i64 0, .int .i64 0, .int .i64 0, .slice none 0 0, .slice none 0 0], .int .i64 10]) ∧ Below W.heap.size W w' := by
  rcases hd with ⟨h1, h2, _⟩ | ⟨_, he, hb⟩
  · obtain ⟨_, h3, _, h4⟩ := rCf_snd (bs, false) hb (by rw [h1])
    rw [h1, List.append_nil] at h3
    have h3 : bs = encCf (rCf (bs, false)).1.co (rCf (bs, false)).1.fr (rCf (bs, false)).1.nm (rCf (bs, false)).1.xs (rCf (bs, false)).1.os := h3
    have h5 := cf_more (cfn_of h2 h4) (cfn_of h hn) ht
    rw [← h3] at h5
    exact (h5 hbs).elim
  · exact ⟨he, hb⟩
end
theorem enc_shorter {co fr nm : Int} {xs : List Sl} {os : List Om} (h : rightB co fr nm xs os = true) : (encCf co fr nm xs os).length ≤ 90000 := by
  unfold rightB at h
  simp only [Bool.and_eq_true] at h
  obtain ⟨⟨h1, h2⟩, h3⟩ := h
  unfold hdrB at h1
  simp only [decide_eq_true_eq] at h1
  have k1 : (xs.flatMap encSlt).length ≤ 2 * xs.length := flat_short fun x hx => by simp [encSlt, Pk.enc_len]
  have k2 : (os.flatMap encOm).length ≤ 1100 * os.length := flat_short fun o ho => by
    obtain ⟨i, hi⟩ := List.mem_iff_getElem?.1 ho
    have h4 := objsB_get h3 i o hi
    unfold objB at h4
    simp only [Bool.and_eq_true, decide_eq_true_eq] at h4
    have h5 := encK_short h4.2.2
    have h6 := lab_short (homeOk_r h4.2.1)
    unfold encOm
    simp only [List.length_append, Pk.enc_len]
    omega
  unfold encCf
  simp only [List.length_append, Pk.enc_len]
  omega
/-- One byte more in memory. -/
theorem app_zero {B : Nat} {w : World} {v : Value} {bs : List Nat} (ty : TypeId) (hr : RW (fun b => B ≤ b) 5 inB w v bs) (hB : B ≤ w.heap.size) (hl : bs.length ≤ 99999) :
    ∃ v' w', (Builtin.append_ #[33, 33] ty #[v, .slice (some ⟨w.heap.size, 0, none⟩) 1 1]).run Try.prog (w.alloc (Obj.cells #[.int .u8 0] 5)) = .ok v' w' ∧ RW (fun b => B ≤ b) 5 inB w' v' (bs ++ [0]) ∧ Below B w w' := by
  obtain ⟨i, hi, hz, hsz, hby⟩ := info_parts infoB
  have b1 := below_alloc1 w (Obj.cells #[.int .u8 0] 5)
  have hn := heap_alloc_new w (Obj.cells #[.int .u8 0] 5)
  obtain ⟨v', w', h1, h2, S, h3, h4⟩ := append_rw (P := Try.prog) (xs := bs) (ys := [0]) 33 ty i _ 1 Try.underlying33 hi hz hsz hby (by omega) rfl (fun _ => rfl) (hr.keep fun b cur hb hc => ⟨hb, b1.block b (Array.getElem?_eq_some_iff.1 hc).1⟩) (by simp; omega) (some ⟨w.heap.size, 0, none⟩) 1 (by simp) (fun j x hj => by
    match j, hj with
    | 0, hj =>
      obtain rfl : 0 = x := by simpa using hj
      exact ⟨_, _, rfl, (Array.getElem?_eq_some_iff.1 hn).1, by rw [cell_of_row _ _ _ _ _ (0, 0) hn]; rfl⟩)
  refine ⟨v', w', h1, h2.keep fun b cur hb _ => ⟨?_, rfl⟩, (b1.mono hB).trans (h3.below (Nat.le_trans hB b1.size) fun b hb => (h4 b hb).1)⟩
  rcases hb with h | h
  · exact h
  · exact Nat.le_trans hB (Nat.le_trans b1.size h)
set_option maxHeartbeats 8000000 in
set_option maxRecDepth 100000 in
theorem back_all {W : World} {co fr nm : Int} {A1 A2 : Option Addr} {l1 l2 c1 c2 : Nat} {xs : List Sl} {ss : List Sd} (h : PlR W co fr nm A1 A2 l1 l2 xs ss) (hc1 : l1 ≤ c1) :
    Calls Try.prog 4 #[.agg #[.int .i64 co, .int .i64 fr, .int .i64 nm, .slice A1 l1 c1, .slice A2 l2 c2]] W (BB W true) := by
  have HP := Lib.hid h
  have HC := Lib.hid hc1
  obtain ⟨X, eX⟩ : ∃ X, W.heap.size = X := ⟨_, rfl⟩
  obtain ⟨w0, e0⟩ : ∃ w0, W.alloc (Obj.cells #[.int .i64 co, .int .i64 fr, .int .i64 nm, .slice A1 l1 c1, .slice A2 l2 c2] 25) = w0 := ⟨_, rfl⟩
  have hB0 := plan_new W co fr nm A1 l1 c1 A2 l2 c2
  rw [e0, eX] at hB0
  have HB := Lib.hid hB0
  have CF := Lib.hid (fit_any w0)
  clear h hc1 hB0
  go_enter Try.func4, Try.ntmps4
  go_upto_region 1 with fail
  try rw [e0]
  try rw [eX]
  clear e0 eX
  go_wp2_with fail
  refine CF.out.mono ?_; rintro e w1 ⟨rfl, hb⟩
  have HB1 := Lib.hid (HB.out.below hb)
  clear hb CF HB
  obtain ⟨d0, d1, d2, d3, d4⟩ := HB1.out.cell
  have CL := Lib.hid (light_any (HP.out.below HB1.out.1) c1 c2)
  go_wp2_with fail
  refine CL.out.mono ?_; rintro e w2 ⟨q, rfl, hq, hb⟩
  have HB2 := Lib.hid (HB1.out.below hb)
  clear hb CL HB1 d0 d1 d2 d3 d4
  cases q
  · go_wp2_with fail
    go_ret
    exact ⟨rfl, HB2.out.1⟩
  have HL := Lib.hid (hq rfl)
  clear hq
  obtain ⟨d0, d1, d2, d3, d4⟩ := HB2.out.cell
  have CC := Lib.hid (config_any (HP.out.below HB2.out.1) c1 c2 HC.out HL.out)
  go_wp2_with fail
  refine CC.out.mono ?_; rintro e w3 ⟨vs, vo, ovs, rfl, hvs, hvo, hom, hown, hb⟩
  have HB3 := Lib.hid (HB2.out.below hb)
  clear hb CC HB2 d0 d1 d2 d3 d4
  obtain ⟨B1, k1, B2, k2, rfl, rfl, hcf, hk2⟩ := cfr_of hvs hvo hom hown HL.out HP.out.n1.1 HP.out.n2.1 HP.out.o1
  have HCF := Lib.hid (And.intro hcf hom)
  clear hvs hvo hom hown hcf hk2
  go_upto_region 6 with fail
  obtain ⟨K, eK⟩ : ∃ K, w3.heap.size = K := ⟨_, rfl⟩
  obtain ⟨w4, e4⟩ : ∃ w4, w3.alloc (Obj.cells #[.int .i64 co, .int .i64 fr, .int .i64 nm, .slice B1 l1 k1, .slice B2 l2 k2] 29) = w4 := ⟨_, rfl⟩
  have ho := CBx.new (co := co) (fr := fr) (nm := nm) (c1 := k1) (c2 := k2) HCF.out.1
  rw [e4, eK] at ho
  have HO := Lib.hid ho
  have HBW := Lib.hid (HB3.out.below ho.b).1
  clear ho
  try rw [e4]
  try rw [eK]
  clear e4 eK
  have x0 := HO.out.c 0 (.int .i64 co) rfl
  have x1 := HO.out.c 1 (.int .i64 fr) rfl
  have x2 := HO.out.c 2 (.int .i64 nm) rfl
  have x3 := HO.out.c 3 (.slice B1 l1 k1) rfl
  have x4 := HO.out.c 4 (.slice B2 l2 k2) rfl
  have CR := lright_any (co := co) (fr := fr) (nm := nm) HO.out.r k1 k2
  rw [HCF.out.2] at CR
  obtain ⟨os, eos⟩ : ∃ os, ss.map cfgO = os := ⟨_, rfl⟩
  rw [eos] at CR HCF
  have HNF := Lib.hid (show ∀ o ∈ os, Nf o from fun o ho => by
    rw [← eos] at ho
    obtain ⟨s, _, rfl⟩ := List.mem_map.1 ho
    exact cfgO_nf s)
  have HLE := Lib.hid (show xs.length = l1 ∧ os.length = l2 from ⟨HP.out.n1.1, by rw [← eos, List.length_map]; exact HP.out.n2.1⟩)
  obtain ⟨rb, erb⟩ : ∃ rb, rightB co fr nm xs os = rb := ⟨_, rfl⟩
  rw [erb] at CR
  have CR := Lib.hid CR
  have HRB := Lib.hid erb
  clear erb eos
  go_wp2_with fail
  refine CR.out.mono ?_; rintro e w5 ⟨rfl, hb⟩
  have HO5 := Lib.hid (HO.out.below hb)
  have HW5 := Lib.hid (HBW.out.trans (hb.mono HBW.out.size))
  clear hb CR HO HBW x0 x1 x2 x3 x4
  cases rb
  · go_wp2_with fail
    go_ret
    exact ⟨rfl, HW5.out⟩
  have x0 := HO5.out.c 0 (.int .i64 co) rfl
  have x1 := HO5.out.c 1 (.int .i64 fr) rfl
  have x2 := HO5.out.c 2 (.int .i64 nm) rfl
  have x3 := HO5.out.c 3 (.slice B1 l1 k1) rfl
  have x4 := HO5.out.c 4 (.slice B2 l2 k2) rfl
  have hsh := enc_short HRB.out
  have hcn := cfn_of HRB.out HNF.out
  have CE := encode_any (co := co) (fr := fr) (nm := nm) (c1 := k1) (c2 := k2) HO5.out.r (by rw [HCF.out.2]; exact hcn) (by rw [HCF.out.2]; exact hsh.1)
  rw [HCF.out.2] at CE
  obtain ⟨bs, ebs⟩ : ∃ bs, encCf co fr nm xs os = bs := ⟨_, rfl⟩
  rw [ebs] at CE hsh
  have CE := Lib.hid CE
  have HN := Lib.hid (And.intro hcn (And.intro hsh ebs))
  clear hcn hsh ebs
  go_wp2_with fail
  refine CE.out.mono ?_; rintro e w6 ⟨a, c, rfl, hrw, h256, hb⟩
  have HO6 := Lib.hid (HO5.out.below hb)
  have HW6 := Lib.hid (HW5.out.trans (hb.mono HW5.out.size))
  have HRW := Lib.hid (And.intro hrw (And.intro h256 hb.size))
  clear hb CE HO5 HW5 hrw h256 x0 x1 x2 x3 x4
  obtain ⟨L1, eL⟩ : ∃ L1, bs.length = L1 + 1 := ⟨bs.length - 1, by have := HN.out.2.1.2; omega⟩
  have hL := HN.out.2.1.1
  rw [eL] at hL
  obtain ⟨hbr, hlc, hcn⟩ := EncE.br HRW.out.1
  have CD := Lib.hid (decode_any (W := w6) (n := L1 + 1) (c := c) hbr eL (by omega) hcn HRW.out.2.1)
  rw [eL]
  have HEL := Lib.hid (And.intro eL (And.intro hL (And.intro hlc hcn)))
  clear eL hL hbr hlc hcn
  go_wp2_with fail
  refine CD.out.mono ?_; rintro e w7 hde
  rw [← HN.out.2.2] at hde
  obtain ⟨D1, d1, D2, d2, ovs2, rfl, hcf, hm, hb⟩ := dec_ok HRB.out HNF.out HLE.out.1 HLE.out.2 hde
  have HKP := Lib.hid (And.intro hcf (And.intro hm hb))
  have HMM := Lib.hid (show ovs2.map Ov.m = ovs.map Ov.m by rw [hm, HCF.out.2])
  clear hde CD hcf hm hb
  go_upto_region 10 with fail
  obtain ⟨Z, eZ⟩ : ∃ Z, w7.heap.size = Z := ⟨_, rfl⟩
  obtain ⟨w8, e8⟩ : ∃ w8, w7.alloc (Obj.cells #[.int .i64 co, .int .i64 fr, .int .i64 nm, .slice D1 l1 d1, .slice D2 l2 d2] 29) = w8 := ⟨_, rfl⟩
  have hb78 : Below w7.heap.size w7 w8 := by rw [← e8]; exact below_alloc1 w7 _
  have hZ8 : w8.heap[Z]? = some (Obj.cells #[.int .i64 co, .int .i64 fr, .int .i64 nm, .slice D1 l1 d1, .slice D2 l2 d2] 29) := by rw [← e8, ← eZ]; exact heap_alloc_new w7 _
  have hb68 : Below w6.heap.size w6 w8 := HKP.out.2.2.trans (hb78.mono HKP.out.2.2.size)
  have HO8 := Lib.hid (HO6.out.below hb68)
  have HD8 := Lib.hid (show CBx w7 Z co fr nm D1 l1 d1 D2 l2 d2 xs ovs2 w8 from ⟨hb78, hZ8, HKP.out.1.below hb78⟩)
  have HW8 := Lib.hid (HW6.out.trans (hb68.mono HW6.out.size))
  have hrw8 : RW (fun b => w5.heap.size ≤ b) 5 inB w8 (.slice a bs.length c) bs := HRW.out.1.keep fun b cur h1 h2 => ⟨h1, hb68.block b (Array.getElem?_eq_some_iff.1 h2).1⟩
  obtain ⟨hbr8, _, _⟩ := EncE.br hrw8
  obtain ⟨vA, w9, hrun1, hrw9, hb89⟩ := app_by (w := w8) (A := a) (c := c) (n := L1 + 1) (xs := bs) 33 HEL.out.1 (by have := HEL.out.2.1; omega) (by have := HEL.out.2.2.1; rw [HEL.out.1] at this; exact this) hbr8
  obtain ⟨vB, w10, hrun2, hrw10, hb910⟩ := app_zero 33 hrw9 hb89.size (by have h9 := enc_shorter HRB.out; rw [HN.out.2.2] at h9; omega)
  obtain ⟨a9, n9, rfl, hl9, _, _⟩ := hrw9.form
  obtain ⟨a10, n10, rfl, hl10, _, hbr10⟩ := hrw10.form
  have HR1 := Lib.hid hrun1
  have HR2 := Lib.hid hrun2
  have hb810 : Below w8.heap.size w8 w10 := hb89.trans hb910
  have HO10 := Lib.hid (HO8.out.below hb810)
  have HD10 := Lib.hid (HD8.out.below hb810)
  have HW10 := Lib.hid (HW8.out.trans (hb810.mono HW8.out.size))
  have hcn10 : a10 = none → n10 = 0 := fun ha => by
    rcases hrw10 with ⟨_, e⟩ | ⟨g, oo, cap, cur, e, _⟩
    · injection e
    · injection e with e1; rw [ha] at e1; cases e1
  have hl0 : (bs ++ [0]).length = L1 + 2 := by rw [List.length_append, HEL.out.1]; rfl
  have CD2 := Lib.hid (decode_any (W := w10) (n := L1 + 2) (c := n10) hbr10 hl0 (by have := HEL.out.2.1; omega) hcn10 (fun y hy => by
    rcases List.mem_append.1 hy with h | h
    · exact HRW.out.2.1 y h
    · rw [List.mem_singleton.1 h]; decide))
  rw [hl0] at HR2
  rw [HEL.out.1] at HR1 HR2
  have HRW10 := Lib.hid (show RW (fun b => w5.heap.size ≤ b) 5 inB w10 (.slice a bs.length c) bs from hrw8.keep fun b cur h1 h2 => ⟨h1, hb810.block b (Array.getElem?_eq_some_iff.1 h2).1⟩)
  try rw [e8]
  try rw [eZ]
  clear e8 eZ hb78 hZ8 hb68 HO6 HW6 HKP hrw8 hbr8 hrun1 hrun2 hrw9 hrw10 hb89 hb910 hl9 hl10 hbr10 hb810 HO8 HW8 hcn10 hl0 HD8
  go_wp2_with (at_builtin; first | refine wpList_append_by rfl (.const (.slice none 0 0)) (.tmp 32) _ _ rfl _ _ _ rfl rfl w9 HR1.out ?_ | refine wpList_append_by rfl (.tmp 33) (.tmp 34) _ _ rfl _ _ _ rfl rfl w10 HR2.out ?_)
  refine CD2.out.mono ?_; rintro e w11 hde
  rw [← HN.out.2.2] at hde
  obtain ⟨rfl, hb⟩ := dec_more HRB.out HNF.out (by simp) hde
  have HO11 := Lib.hid (HO10.out.below hb)
  have HD11 := Lib.hid (HD10.out.below hb)
  have HW11 := Lib.hid (HW10.out.trans (hb.mono HW10.out.size))
  have HRW11 := Lib.hid (show RW (fun b => w5.heap.size ≤ b) 5 inB w11 (.slice a bs.length c) bs from HRW10.out.keep fun b cur h1 h2 => ⟨h1, hb.block b (Array.getElem?_eq_some_iff.1 h2).1⟩)
  clear hde CD2 hb HO10 HD10 HW10 HRW10 HR1 HR2
  go_upto_region 11 with fail
  obtain ⟨w12, e12⟩ : ∃ w12, w11.alloc (Obj.cells #[.int .i64 0, .int .i64 0, .int .i64 0, .slice none 0 0, .slice none 0 0] 29) = w12 := ⟨_, rfl⟩
  have hb12 : Below w11.heap.size w11 w12 := by rw [← e12]; exact below_alloc1 w11 _
  have HO12 := Lib.hid (HO11.out.below hb12)
  have HD12 := Lib.hid (HD11.out.below hb12)
  have HW12 := Lib.hid (HW11.out.trans (hb12.mono HW11.out.size))
  have hrw12 : RW (fun b => w5.heap.size ≤ b) 5 inB w12 (.slice a bs.length c) bs := HRW11.out.keep fun b cur h1 h2 => ⟨h1, hb12.block b (Array.getElem?_eq_some_iff.1 h2).1⟩
  obtain ⟨hbr12, hlc12, hcn12⟩ := EncE.br hrw12
  have htl : (bs.take L1).length = L1 := by rw [List.length_take]; have := HEL.out.1; omega
  have CD3 := Lib.hid (decode_any (W := w12) (n := L1) (c := c) (bs := bs.take L1) (fun i x hi => hbr12 i x (by
    rw [List.getElem?_take] at hi
    split at hi
    · exact hi
    · cases hi)) htl (by have := HEL.out.2.1; omega) hcn12 (fun y hy => HRW.out.2.1 y (List.mem_of_mem_take hy)))
  have i0 : IntKind.i64.wrap (L1 : Int) = (L1 : Int) := by have := HEL.out.2.1; rw [IntKind.wrap_i64]; omega
  have s1 : (L1 : Int) ≤ c := by have := HEL.out.1; omega
  have s2 : (0 : Int) ≤ (L1 : Int) := by omega
  try rw [e12]
  clear e12 hb12 HO11 HD11 HW11 HRW11 hrw12 hbr12 hlc12 hcn12 htl
  go_wp2_with fail
  refine CD3.out.mono ?_; rintro e w13 hde
  obtain ⟨tl, htl, htn⟩ : ∃ tl, bs = bs.take L1 ++ tl ∧ tl ≠ [] := ⟨bs.drop L1, (List.take_append_drop L1 bs).symm, fun h => by
    have h1 := congrArg List.length h
    rw [List.length_drop] at h1
    have := HEL.out.1
    simp at h1
    omega⟩
  obtain ⟨rfl, hb⟩ := dec_less HRB.out HNF.out htn (HN.out.2.2.trans htl) (fun y hy => HRW.out.2.1 y (List.mem_of_mem_take hy)) hde
  have HO13 := Lib.hid (HO12.out.below hb)
  have HD13 := Lib.hid (HD12.out.below hb)
  have HW13 := Lib.hid (HW12.out.trans (hb.mono HW12.out.size))
  clear hde CD3 hb HO12 HD12 HW12 htl htn i0 s1 s2
  go_upto_region 12 with fail
  obtain ⟨w14, e14⟩ : ∃ w14, w13.alloc (Obj.cells #[.int .i64 0, .int .i64 0, .int .i64 0, .slice none 0 0, .slice none 0 0] 29) = w14 := ⟨_, rfl⟩
  have hb14 : Below w13.heap.size w13 w14 := by rw [← e14]; exact below_alloc1 w13 _
  have HO14 := Lib.hid (HO13.out.below hb14)
  have HD14 := Lib.hid (HD13.out.below hb14)
  have HW14 := Lib.hid (HW13.out.trans (hb14.mono HW13.out.size))
  try rw [e14]
  clear e14 hb14 HO13 HD13 HW13
  have CK := Lib.hid (alike_any (co := co) (fr := fr) (nm := nm) (c1 := k1) (c2 := k2) (d1 := d1) (d2 := d2) HO14.out.r HD14.out.r HMM.out (by rw [HCF.out.2]; exact HN.out.1) (by rw [HCF.out.2, HN.out.2.2]; exact HN.out.2.1.1))
  have x0 := HO14.out.c 0 (.int .i64 co) rfl
  have x1 := HO14.out.c 1 (.int .i64 fr) rfl
  have x2 := HO14.out.c 2 (.int .i64 nm) rfl
  have x3 := HO14.out.c 3 (.slice B1 l1 k1) rfl
  have x4 := HO14.out.c 4 (.slice B2 l2 k2) rfl
  have y0 := HD14.out.c 0 (.int .i64 co) rfl
  have y1 := HD14.out.c 1 (.int .i64 fr) rfl
  have y2 := HD14.out.c 2 (.int .i64 nm) rfl
  have y3 := HD14.out.c 3 (.slice D1 l1 d1) rfl
  have y4 := HD14.out.c 4 (.slice D2 l2 d2) rfl
  go_wp2_with fail
  refine CK.out.mono ?_; rintro e w15 ⟨rfl, hb⟩
  have HO15 := Lib.hid (HO14.out.below hb)
  have HD15 := Lib.hid (HD14.out.below hb)
  have HW15 := Lib.hid (HW14.out.trans (hb.mono HW14.out.size))
  clear hb CK HO14 HD14 HW14 x0 x1 x2 x3 x4 y0 y1 y2 y3 y4
  have x4 := HO15.out.c 4 (.slice B2 l2 k2) rfl
  have y4 := HD15.out.c 4 (.slice D2 l2 d2) rfl
  have HL2 := Lib.hid HO15.out.r.n2.2
  go_wp2_with fail
  go_loopg [76] l2 (fun gh vi wr => ∃ k : Nat, k ≤ l2 ∧ l2 - k ≤ gh ∧ vi = .int .i64 k ∧ Hid (Below w15.heap.size w15 wr))
  case atStart => exact ⟨0, by omega, by omega, rfl, Lib.hid (Below.refl _ _)⟩
  case round =>
    obtain ⟨k, hk, hg, rfl, hI⟩ := hrel
    clear x4 y4
    by_cases hlt : k < l2
    · have l1' : (k : Int) < l2 := by omega
      have iw : IntKind.i64.wrap ((k : Int) + 1) = ((k + 1 : Nat) : Int) := by have := HL2.out; rw [IntKind.wrap_i64]; omega
      have hO := HO15.out.below hI.out
      have hD := HD15.out.below hI.out
      obtain ⟨o, hx⟩ : ∃ o, ovs[k]? = some o := ⟨_, List.getElem?_eq_getElem (by rw [hO.r.n2.1]; exact hlt)⟩
      obtain ⟨p, hy⟩ : ∃ o, ovs2[k]? = some o := ⟨_, List.getElem?_eq_getElem (by rw [hD.r.n2.1]; exact hlt)⟩
      have hmm : p.m = o.m := by
        have h1 := congrArg (fun l => l[k]?) HMM.out
        simp only [List.getElem?_map, hx, hy, Option.map_some, Option.some.injEq] at h1
        exact h1
      have hro := hO.r.o2 o (List.mem_of_getElem? hx)
      have hrp := hD.r.o2 p (List.mem_of_getElem? hy)
      have r1 := hO.r.r2
      have r2 := hD.r.r2
      obtain ⟨b1, o1, rfl⟩ := r1.some_ (by have := hO.r.n2.1; omega)
      obtain ⟨b2, o2, rfl⟩ := r2.some_ (by have := hD.r.n2.1; omega)
      obtain ⟨m, ⟨la, ln, lc⟩, ⟨ca, cn, cc⟩, ⟨da, dn, dc⟩, ⟨ma, mn, mc⟩⟩ := o
      obtain ⟨m2, ⟨la2, ln2, lc2⟩, ⟨ca2, cn2, cc2⟩, ⟨da2, dn2, dc2⟩, ⟨ma2, mn2, mc2⟩⟩ := p
      obtain rfl : m = m2 := hmm.symm
      obtain rfl : dn = dn2 := by have e1 := hro.d.1; have e2 := hrp.d.1; simp only at e1 e2; omega
      obtain rfl : mn = mn2 := by have e1 := hro.p.1; have e2 := hrp.p.1; simp only at e1 e2; omega
      have k0 := r1.at_ (j := 0) hx (u := .int .i64 m.kd) rfl
      rw [Nat.add_zero] at k0
      have k1' := r1.at_ (j := 1) hx (u := .int .i64 m.pa) rfl
      have k2' := r1.at_ (j := 2) hx (u := .int .i64 m.lD) rfl
      have k3 := r1.at_ (j := 3) hx (u := .slice la ln lc) rfl
      have k4 := r1.at_ (j := 4) hx (u := .int .i64 m.cD) rfl
      have k5 := r1.at_ (j := 5) hx (u := .slice ca cn cc) rfl
      have k6 := r1.at_ (j := 6) hx (u := .int .i64 m.pg) rfl
      have k7 := r1.at_ (j := 7) hx (u := .int .i64 m.nm) rfl
      have k8 := r1.at_ (j := 8) hx (u := .slice da dn dc) rfl
      have k9 := r1.at_ (j := 9) hx (u := .slice ma mn mc) rfl
      have k10 := r1.at_ (j := 10) hx (u := .int .i64 m.sp) rfl
      have k11 := r1.at_ (j := 11) hx (u := .int .i64 m.pc) rfl
      obtain ⟨w16, e16⟩ : ∃ w16, wr.alloc (Obj.cells #[.int .i64 m.kd, .int .i64 m.pa, .int .i64 m.lD, .slice la ln lc, .int .i64 m.cD, .slice ca cn cc, .int .i64 m.pg, .int .i64 m.nm, .slice da dn dc, .slice ma mn mc, .int .i64 m.sp, .int .i64 m.pc] 44) = w16 := ⟨_, rfl⟩
      obtain ⟨P1, eP1⟩ : ∃ P1, wr.heap.size = P1 := ⟨_, rfl⟩
      have hb16 : Below wr.heap.size wr w16 := by rw [← e16]; exact below_alloc1 wr _
      have hP16 : w16.heap[P1]? = some (Obj.cells #[.int .i64 m.kd, .int .i64 m.pa, .int .i64 m.lD, .slice la ln lc, .int .i64 m.cD, .slice ca cn cc, .int .i64 m.pg, .int .i64 m.nm, .slice da dn dc, .slice ma mn mc, .int .i64 m.sp, .int .i64 m.pc] 44) := by rw [← e16, ← eP1]; exact heap_alloc_new wr _
      have HK1 := Lib.hid (show OBx wr P1 (⟨m, ⟨la, ln, lc⟩, ⟨ca, cn, cc⟩, ⟨da, dn, dc⟩, ⟨ma, mn, mc⟩⟩ : Ov) w16 from ⟨hb16, hP16, hro.below hb16⟩)
      have HD16 := Lib.hid (hD.below hb16)
      have r2' := r2.below hb16
      have q0 := r2'.at_ (j := 0) hy (u := .int .i64 m.kd) rfl
      rw [Nat.add_zero] at q0
      have q1 := r2'.at_ (j := 1) hy (u := .int .i64 m.pa) rfl
      have q2 := r2'.at_ (j := 2) hy (u := .int .i64 m.lD) rfl
      have q3 := r2'.at_ (j := 3) hy (u := .slice la2 ln2 lc2) rfl
      have q4 := r2'.at_ (j := 4) hy (u := .int .i64 m.cD) rfl
      have q5 := r2'.at_ (j := 5) hy (u := .slice ca2 cn2 cc2) rfl
      have q6 := r2'.at_ (j := 6) hy (u := .int .i64 m.pg) rfl
      have q7 := r2'.at_ (j := 7) hy (u := .int .i64 m.nm) rfl
      have q8 := r2'.at_ (j := 8) hy (u := .slice da2 dn dc2) rfl
      have q9 := r2'.at_ (j := 9) hy (u := .slice ma2 mn mc2) rfl
      have q10 := r2'.at_ (j := 10) hy (u := .int .i64 m.sp) rfl
      have q11 := r2'.at_ (j := 11) hy (u := .int .i64 m.pc) rfl
      obtain ⟨w17, e17⟩ : ∃ w17, w16.alloc (Obj.cells #[.int .i64 m.kd, .int .i64 m.pa, .int .i64 m.lD, .slice la2 ln2 lc2, .int .i64 m.cD, .slice ca2 cn2 cc2, .int .i64 m.pg, .int .i64 m.nm, .slice da2 dn dc2, .slice ma2 mn mc2, .int .i64 m.sp, .int .i64 m.pc] 44) = w17 := ⟨_, rfl⟩
      obtain ⟨P2, eP2⟩ : ∃ P2, w16.heap.size = P2 := ⟨_, rfl⟩
      have hb17 : Below w16.heap.size w16 w17 := by rw [← e17]; exact below_alloc1 w16 _
      have hP17 : w17.heap[P2]? = some (Obj.cells #[.int .i64 m.kd, .int .i64 m.pa, .int .i64 m.lD, .slice la2 ln2 lc2, .int .i64 m.cD, .slice ca2 cn2 cc2, .int .i64 m.pg, .int .i64 m.nm, .slice da2 dn dc2, .slice ma2 mn mc2, .int .i64 m.sp, .int .i64 m.pc] 44) := by rw [← e17, ← eP2]; exact heap_alloc_new w16 _
      have HA := Lib.hid (HK1.out.below hb17)
      have HQ := Lib.hid (show OBx w16 P2 (⟨m, ⟨la2, ln2, lc2⟩, ⟨ca2, cn2, cc2⟩, ⟨da2, dn, dc2⟩, ⟨ma2, mn, mc2⟩⟩ : Ov) w17 from ⟨hb17, hP17, (hrp.below hb16).below hb17⟩)
      have HB17 := Lib.hid (hI.out.trans ((hb16.trans (hb17.mono hb16.size)).mono hI.out.size))
      have y4 := HD16.out.c 4 (.slice (some ⟨b2, o2, none⟩) l2 d2) rfl
      have HG := Lib.hid (And.intro hg hlt)
      have HE := Lib.hid (And.intro e16 (And.intro e17 (And.intro eP1 eP2)))
      have z4 := hO.c 4 (.slice (some ⟨b1, o1, none⟩) l2 k2) rfl
      clear hO hD hx hy hro hrp r1 r2 r2' hb16 hP16 hb17 hP17 hI hg hlt hk e17 eP2
      go_upto_region 17 with fail
      try rw [e16]
      try rw [eP1]
      clear e16 eP1 k0 k1' k2' k3 k4 k5 k6 k7 k8 k9 k10 k11 z4
      go_upto_region 18 with fail
      try rw [HE.out.2.1]
      try rw [HE.out.2.2.2]
      clear HE q0 q1 q2 q3 q4 q5 q6 q7 q8 q9 q10 q11 y4
      have f0 := HA.out.c 0 (.int .i64 m.kd) rfl
      have f1 := HA.out.c 1 (.int .i64 m.pa) rfl
      have f2 := HA.out.c 2 (.int .i64 m.lD) rfl
      have f3 := HA.out.c 3 (.slice la ln lc) rfl
      have g0 := HQ.out.c 0 (.int .i64 m.kd) rfl
      have g1 := HQ.out.c 1 (.int .i64 m.pa) rfl
      have g2 := HQ.out.c 2 (.int .i64 m.lD) rfl
      have g3 := HQ.out.c 3 (.slice la2 ln2 lc2) rfl
      have CS := ysame_m HQ.out.r.l HA.out.r.l
      rw [decide_eq_true (show m.lD = m.lD ∧ m.lP = m.lP from ⟨rfl, rfl⟩)] at CS
      have CS := Lib.hid CS
      go_wp2_with fail
      refine CS.out.mono ?_; rintro e w18 ⟨rfl, hb⟩
      have HA2 := Lib.hid (HA.out.below hb)
      have HQ2 := Lib.hid (HQ.out.below hb)
      have HB18 := Lib.hid (HB17.out.trans (hb.mono HB17.out.size))
      clear hb CS HA HQ HB17 f0 g0 f1 g1 f2 g2 f3 g3
      have f4 := HA2.out.c 4 (.int .i64 m.cD) rfl
      have f5 := HA2.out.c 5 (.slice ca cn cc) rfl
      have g4 := HQ2.out.c 4 (.int .i64 m.cD) rfl
      have g5 := HQ2.out.c 5 (.slice ca2 cn2 cc2) rfl
      have CS := ysame_m HQ2.out.r.c HA2.out.r.c
      rw [decide_eq_true (show m.cD = m.cD ∧ m.cP = m.cP from ⟨rfl, rfl⟩)] at CS
      have CS := Lib.hid CS
      go_wp2_with fail
      refine CS.out.mono ?_; rintro e w19 ⟨rfl, hb⟩
      have HA3 := Lib.hid (HA2.out.below hb)
      have HQ3 := Lib.hid (HQ2.out.below hb)
      have HB19 := Lib.hid (HB18.out.trans (hb.mono HB18.out.size))
      clear hb CS HA2 HQ2 HB18 f4 g4 f5 g5
      obtain ⟨st, est⟩ : ∃ st, Str m.da = st := ⟨_, rfl⟩
      have v1 := conv_bytes w19 da dn dc m.da HA3.out.r.d.1 HA3.out.r.d.2.2.1
      have v2 := conv_bytes w19 da2 dn dc2 m.da HQ3.out.r.d.1 HQ3.out.r.d.2.2.1
      rw [est] at v1 v2
      clear est
      have f6 := HA3.out.c 6 (.int .i64 m.pg) rfl
      have f7 := HA3.out.c 7 (.int .i64 m.nm) rfl
      have f8 := HA3.out.c 8 (.slice da dn dc) rfl
      have f9 := HA3.out.c 9 (.slice ma mn mc) rfl
      have f10 := HA3.out.c 10 (.int .i64 m.sp) rfl
      have f11 := HA3.out.c 11 (.int .i64 m.pc) rfl
      have g6 := HQ3.out.c 6 (.int .i64 m.pg) rfl
      have g7 := HQ3.out.c 7 (.int .i64 m.nm) rfl
      have g8 := HQ3.out.c 8 (.slice da2 dn dc2) rfl
      have g9 := HQ3.out.c 9 (.slice ma2 mn mc2) rfl
      have g10 := HQ3.out.c 10 (.int .i64 m.sp) rfl
      have g11 := HQ3.out.c 11 (.int .i64 m.pc) rfl
      go_wp2_with fail
      go_roundg (l2 - (k + 1))
      case rel => exact ⟨k + 1, HG.out.2, Nat.le_refl _, by first | rfl | simp, HB19⟩
      case measure => have := HG.out; omega
    · have l1' : ¬ (k : Int) < l2 := by omega
      have hO := HO15.out.below hI.out
      have hD := HD15.out.below hI.out
      have x0 := hO.c 0 (.int .i64 co) rfl
      have x1 := hO.c 1 (.int .i64 fr) rfl
      have x2 := hO.c 2 (.int .i64 nm) rfl
      have x3 := hO.c 3 (.slice B1 l1 k1) rfl
      have y0 := hD.c 0 (.int .i64 co) rfl
      have y1 := hD.c 1 (.int .i64 fr) rfl
      have y2 := hD.c 2 (.int .i64 nm) rfl
      have y3 := hD.c 3 (.slice D1 l1 d1) rfl
      have HFin := Lib.hid (HW15.out.trans (hI.out.mono HW15.out.size))
      clear hO hD hI hg hlt hk
      go_wp2_with fail
      go_ret
      exact ⟨by simp, HFin.out⟩
theorem ba_law (u : Value) (W : World) (g : CameP W u) : Calls Try.prog 4 #[u] W fun e w' => e = .returned (.bool true) ∧ Below W.heap.size W w' := by
  obtain ⟨co, fr, nm, A1, A2, l1, c1, l2, c2, xs, ss, rfl, hb, ⟨a1, a2, a3, a4, a5, a6⟩, b1, b2, b3, b4, b5, b6⟩ := g
  exact back_all ⟨hb, ⟨a3, a4⟩, a5, a6, ⟨b3, b4⟩, b5, b6⟩ a1
end Go.Proofs.Ytmadldgajjgbmaa
