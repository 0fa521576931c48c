/- TableAll. -/
import Derived.Test.YtodionedjokdmaaHa
import Derived.Test.YtodionedjokdmaaGp
import Derived.Test.YtodionedjokdmaaHs
set_option linter.unusedVariables false
set_option linter.unusedSimpArgs false
namespace Go.Proofs.Ytodionedjokdmaa
open Go.RowKit Go.Maps
set_option linter.unusedVariables false
set_option linter.unusedSimpArgs false
attribute [local go_sem] Oper.semAt_some
theorem mask16 (n : Int) : ∃ m : Nat, bits .and .u64 n 65535 = (m : Int) ∧ m ≤ 65535 := ⟨(n % 65536).toNat, by have := u64_mask 16 (by omega) n; simp at this; rw [this]; omega, by omega⟩
/-- The law's own boxes: where to stop, and its answer. -/
structure BXS (W : World) (S : Nat) (x1 : Int) (w : World) : Prop where
  s : W.heap.size = S
  b : Below S W w
  c3 : w.heap[S]? = some (Obj.cells #[.int .i64 x1] 3)
  c4 : w.heap[S + 1]? = some (Obj.cells #[.bool false] 4)
theorem BXS.start (W : World) (x1 : Int) {S : Nat} (e : W.heap.size = S) : BXS W S x1 ((W.alloc (Obj.cells #[.int .i64 x1] 3)).alloc (Obj.cells #[.bool false] 4)) := by
  subst e
  refine ⟨rfl, ((Below.refl _ _).alloc (Nat.le_refl _) _).alloc (by simp) _, ?_, ?_⟩
  · rw [Below.heap_alloc _ _ _ (by simp)]; exact heap_alloc_new W _
  · have := heap_alloc_new (W.alloc (Obj.cells #[.int .i64 x1] 3)) (Obj.cells #[.bool false] 4)
    rw [show (W.alloc (Obj.cells #[.int .i64 x1] 3)).heap.size = W.heap.size + 1 by simp] at this
    exact this
theorem BXS.below {W w w' : World} {S : Nat} {x1 : Int} (h : BXS W S x1 w) (hb : Below w.heap.size w w') : BXS W S x1 w' :=
  ⟨h.s, h.b.trans (hb.mono (by have := h.b.size; have := h.s; omega)), (hb.block _ (Array.getElem?_eq_some_iff.1 h.c3).1).trans h.c3, (hb.block _ (Array.getElem?_eq_some_iff.1 h.c4).1).trans h.c4⟩
theorem BXS.same {W w w' : World} {S : Nat} {x1 : Int} (h : BXS W S x1 w) (hb : Below W.heap.size W w') (hs : Same [S, S + 1] w w') : BXS W S x1 w' :=
  ⟨h.s, by rw [← h.s]; exact hb, (hs S (by simp)).trans h.c3, (hs (S + 1) (by simp)).trans h.c4⟩
/-- Two boxes more: what came last, and how many came. -/
structure TwoS (wa : World) (B : Nat) (W0 : World) : Prop where
  b : Below B wa W0
  size : W0.heap.size = B + 2
  c9 : W0.heap[B]? = some (Obj.cells #[.int .u64 (([] : List Nat).getLastD 0 : Nat)] 28)
  c10 : W0.heap[B + 1]? = some (Obj.cells #[.int .i64 (([] : List Nat).length : Nat)] 3)
theorem two_start (w : World) : TwoS w w.heap.size ((w.alloc (Obj.cells #[.int .u64 0] 28)).alloc (Obj.cells #[.int .i64 0] 3)) := by
  refine ⟨((Below.refl _ _).alloc (Nat.le_refl _) _).alloc (by simp) _, by simp, ?_, ?_⟩
  · rw [Below.heap_alloc _ _ _ (by simp)]; exact heap_alloc_new w _
  · have := heap_alloc_new (w.alloc (Obj.cells #[.int .u64 0] 28)) (Obj.cells #[.int .i64 0] 3)
    rw [show (w.alloc (Obj.cells #[.int .u64 0] 28)).heap.size = w.heap.size + 1 by simp] at this
    exact this
/-- The table and how many have come. -/
def AS (W : World) (S : Nat) (x1 : Int) (t m j : Nat) (w : World) : Prop := BXS W S x1 w ∧ ∃ M ns G, TS W [S, S + 1] t M ns G w ∧ ns.length = m ∧ m ≤ j + 1 ∧ GA G j
set_option maxHeartbeats 4000000 in
set_option maxRecDepth 100000 in
theorem tall_all (x1 : Int) (A : Option Addr) (n c : Nat) (us : List Nat) (W : World) (hl : us.length = n) (hr : LR inU W A us) : Calls Try.prog 6 #[.slice A n c, .int .i64 x1] W fun e w' => e = .returned (.bool true) ∧ Below W.heap.size W w' := by
  have HN := Lib.hid (And.intro hl hr)
  have EG := Lib.hid (fun args w => enters_of (P := Try.prog) Try.func22 (by decide) rfl args w)
  have CF := Lib.hid fit_any
  clear hl hr
  refine (callsIn_wide (n := 5)).1 ?_
  refine callsIn_of_wp_marks Try.func6 rfl trivial ?_ rfl
  simp only [Try.ntmps6, List.size_toArray, List.length_cons, List.length_nil, Nat.reduceAdd, Nat.reduceSub, Array.replicate_succ, Array.replicate_zero, List.push_toArray, List.append_toArray, List.nil_append, List.cons_append]
  refine wpIn_wide.2 ?_
  go_wp2_with fail
  obtain ⟨S, eS⟩ : ∃ S, W.heap.size = S := ⟨_, rfl⟩
  have HX := Lib.hid (BXS.start W x1 eS)
  have HS := Lib.hid eS
  refine (CF.out _).mono ?_; rintro e w1 ⟨rfl, hb⟩
  have HX1 := Lib.hid (HX.out.below hb)
  rw [eS]
  clear hb CF HX eS
  by_cases hn : 100 < n
  · have q : (n : Int) > 100 := by omega
    have z1 : w1.cell? ⟨S + 1, 0, none⟩ = some (.bool false) := by rw [cell_of_row _ _ _ _ _ (0, 0) HX1.out.c4]; rfl
    have z2 : w1.frozen? ⟨S + 1, 0, none⟩ = false := frozen_of_row _ _ _ _ _ HX1.out.c4
    clear hn
    go_wp2_with fail
    have hcx := heap_setCell_same w1 (S + 1) 0 _ 4 (.bool true) HX1.out.c4
    refine ⟨_, results_cell1 (by rfl) _ _ (S + 1) true rfl ?_, rfl, ?_⟩
    · rw [cell_of_row _ _ 0 _ 4 (0, 0) hcx]; rfl
    · have := HX1.out.b
      rw [← HS.out] at this
      exact this.setCell (p := ⟨S + 1, 0, none⟩) (by have := HS.out; show W.heap.size ≤ S + 1; omega) _
  have q : ¬ (n : Int) > 100 := by omega
  have HQ := Lib.hid hn
  have CN := Lib.hid (new_any w1)
  clear hn
  go_wp2_with fail
  refine CN.out.mono ?_; rintro e w2 ⟨rfl, rfl⟩
  clear CN q
  have h1 := TS.new (W := W) (T := [S, S + 1]) (by have := HX1.out.b; rw [← HS.out] at this; exact this) (w := w1) (fun b hb => by
    have h3 := (Array.getElem?_eq_some_iff.1 HX1.out.c3).1
    have h4 := (Array.getElem?_eq_some_iff.1 HX1.out.c4).1
    simp at hb
    rcases hb with rfl | rfl <;> assumption)
  have HX2 := Lib.hid (HX1.out.below (below_alloc1 w1 (Obj.cells #[.map none] 92)))
  obtain ⟨t, et⟩ : ∃ t, w1.heap.size = t := ⟨_, rfl⟩
  obtain ⟨w2, e2⟩ : ∃ w2, w1.alloc (Obj.cells #[.map none] 92) = w2 := ⟨_, rfl⟩
  rw [e2, et] at h1
  rw [e2] at HX2
  rw [e2, et]
  have ho1 := OB.new (w := w2) (nm := 1) (hm := 0) (own := own_ W [S, S + 1]) (u64_of (by omega)) (u64_of (by omega)) 1 0 (own_new h1 (Nat.le_refl _))
  have b2 := below_alloc1 w2 (Obj.cells (ocs Try.zeroCells60 (.int .u64 ((1 : Nat) : Int)) (.int .i64 1) (.int .u64 ((0 : Nat) : Int))) 60)
  have h2 := h1.below b2
  have HX3 := Lib.hid (HX2.out.below b2)
  have C2 := Lib.hid (add_any h2 ho1 (fun k o' h => by cases h) (by simp))
  rw [show may (fun _ => none) 1 ⟨w2.heap.size, 1, 0, [], none, 0⟩ = true from rfl] at C2
  rw [show ((1 : Nat) : Int) = 1 from rfl, show ((0 : Nat) : Int) = 0 from rfl, ← ocs2] at C2 HX3
  clear e2 h1 h2 ho1 et HX2 HX1 b2
  go_wp2_with fail
  refine C2.out.mono ?_; rintro e w3 ⟨rfl, ⟨M3, h3⟩, hs3⟩
  simp only [if_true, List.nil_append] at h3
  replace h3 : TS W [S, S + 1] t M3 [1] (updN (fun _ => none) 1 (some ⟨w2.heap.size, 1, 0, [], none, 0⟩)) w3 := h3
  have HI0 : Hid (AS W S x1 t 1 0 w3) := Lib.hid ⟨HX3.out.same h3.b hs3, _, _, _, h3, rfl, by omega, GA.start _⟩
  clear C2 h3 hs3 HX3
  have hnn := HQ.out
  go_wp2_with fail
  go_loopg [6, 24] n (fun gh v6 v24 wr => ∃ j m : Nat, j ≤ n ∧ n - j ≤ gh ∧ v6 = .int .i64 m ∧ v24 = .int .i64 j ∧ Hid (AS W S x1 t m j wr))
  case atStart => exact ⟨0, 1, Nat.zero_le _, by omega, rfl, rfl, HI0⟩
  case round =>
    clear HI0
    obtain ⟨j, m, hj, hg, rfl, rfl, hI⟩ := hrel
    by_cases hlt : j < n
    · obtain ⟨hbx, M, ns, G, hT, hlen, hmj, hG⟩ := hI.out
      obtain ⟨x, hx⟩ : ∃ x, us[j]? = some x := ⟨_, List.getElem?_eq_getElem (by have := HN.out.1; omega)⟩
      obtain ⟨ab, ao, rfl, abl, c0⟩ := (HN.out.2.below hT.b) j x hx
      unfold inU at c0
      obtain ⟨y, ey, hy⟩ := mask16 (x : Int)
      have i1 : IntKind.i64.wrap ((j : Int) + 1) = ((j + 1 : Nat) : Int) := by rw [IntKind.wrap_i64]; omega
      have l1 : (j : Int) < n := by omega
      have ho6 := OB.new (w := wr) (nm := y) (hm := 1) (own := own_ W [S, S + 1]) (u64_of (by omega)) (u64_of (by omega)) 2 0 (own_new hT (Nat.le_refl _))
      have b6 := below_alloc1 wr (Obj.cells (ocs Try.zeroCells60 (.int .u64 (y : Int)) (.int .i64 2) (.int .u64 ((1 : Nat) : Int))) 60)
      have C6 := Lib.hid (add_any (hT.below b6) ho6 (hG.ks (by omega)) (by omega))
      have HX6 := Lib.hid (hbx.below b6)
      have HJ := Lib.hid (And.intro hG (And.intro hlen (And.intro hmj (And.intro hy (And.intro hlt hnn)))))
      unfold ocs at C6 HX6
      rw [show ((1 : Nat) : Int) = 1 from rfl] at C6 HX6
      obtain ⟨r, er⟩ : ∃ r, may G y ⟨wr.heap.size, 2, 1, [], none, 0⟩ = r := ⟨_, rfl⟩
      rw [er] at C6
      have HE := Lib.hid er
      have i2 : IntKind.i64.wrap ((m : Int) + 1) = ((m + 1 : Nat) : Int) := by rw [IntKind.wrap_i64]; omega
      clear hbx hT hlen hmj hG hx abl hy hlt hj b6 ho6 er hnn hI
      go_wp2_with fail
      refine C6.out.mono ?_; rintro e w6 ⟨rfl, ⟨M6, h6⟩, hs6⟩
      clear C6 c0 ey
      obtain ⟨hG, hlen, hmj, hy, hlt, hnn⟩ := HJ.out
      cases r
      · have HD : Hid (AS W S x1 t m (j + 1) w6) := Lib.hid ⟨HX6.out.same h6.b hs6, _, _, _, h6, hlen, by omega, hG.more (by omega)⟩
        have HG := Lib.hid (show j + 1 ≤ n ∧ j < n from by omega)
        clear h6 hs6 hG hlen hmj hy hlt hnn i2
        go_wp2_with fail
        go_roundg (n - (j + 1))
        case rel => exact ⟨j + 1, m, HG.out.1, Nat.le_refl _, rfl, by first | rfl | simp, HD⟩
        case measure => have := HG.out; omega
      · have HD : Hid (AS W S x1 t (m + 1) (j + 1) w6) := Lib.hid ⟨HX6.out.same h6.b hs6, _, _, _, h6, by simp [hlen], by omega, hG.add hy HE.out⟩
        have HG := Lib.hid (show j + 1 ≤ n ∧ j < n from by omega)
        clear h6 hs6 hG hlen hmj hy hlt hnn
        go_wp2_with fail
        go_roundg (n - (j + 1))
        case rel => exact ⟨j + 1, m + 1, HG.out.1, Nat.le_refl _, by first | rfl | simp, by first | rfl | simp, HD⟩
        case measure => have := HG.out; omega
    · obtain ⟨wa, rfl⟩ : ∃ wa, wa = wr := ⟨_, rfl⟩
      have HM := Lib.hid (show m ≤ 101 from by have := hI.out.2; obtain ⟨_, _, _, _, _, h, _⟩ := this; omega)
      have l1 : ¬ (j : Int) < n := by omega
      have HJn := Lib.hid (show j ≤ 1000 from by omega)
      clear hnn hj hg hlt
      obtain ⟨hbx, M, ns, G, hT, hlen, hmj, hG⟩ := hI.out
      obtain ⟨rb, rks, hroot, _⟩ := hG.root
      obtain ⟨mM, rfl⟩ := hT.some_ hroot
      obtain ⟨hmo, hmG⟩ := hT.mapG
      have hns : ns.length ≤ 127 := by have := HM.out; omega
      have hgs : ∀ x ∈ ns, ∃ b, mpG G x = some (some b) := fun x hx => by
        obtain ⟨o, ho⟩ := Option.isSome_iff_exists.1 ((hT.mem x).1 hx)
        exact ⟨o.b, by unfold mpG; rw [ho]; rfl⟩
      have hus : ∀ x ∈ ns, 1 ≤ x ∧ x ≤ 65535 := fun x hx => hG.rg x ((hT.mem x).1 hx)
      have hza : ZA t mM ns (mpG G) wa := ⟨hT.tb, hmG, fun x hx => u64_of (by have := hus x hx; omega), hgs⟩
      have EI := Lib.hid (all_iter sort127 (by omega) t mM ns (mpG G) hns)
      have H := Lib.hid (And.intro hT (And.intro hza (And.intro hbx (And.intro hlen (And.intro hG hus)))))
      have htm : t < wa.heap.size ∧ mM < wa.heap.size := ⟨hT.lt, hmG.lt⟩
      have htS : (t ≠ S ∧ t ≠ S + 1) ∧ (mM ≠ S ∧ mM ≠ S + 1) := by
        have h1 := hT.ow.2
        have h2 := hmo.2
        simp at h1 h2
        exact ⟨h1, h2⟩
      have hSl : S + 1 < wa.heap.size := (Array.getElem?_eq_some_iff.1 hbx.c4).1
      have HT := Lib.hid (And.intro htm (And.intro htS hSl))
      clear hbx hT hlen hmj hG hroot hmo hmG hns hgs hus hza htm htS hSl hI
      go_upto_block 2 with fail
      have SX := Lib.hid (two_start wa)
      obtain ⟨B, eB⟩ : ∃ B, wa.heap.size = B := ⟨_, rfl⟩
      obtain ⟨W0, eW0⟩ : ∃ W0, (wa.alloc (Obj.cells #[.int .u64 0] 28)).alloc (Obj.cells #[.int .i64 0] 3) = W0 := ⟨_, rfl⟩
      rw [eW0, eB] at SX
      rw [eW0, eB]
      rw [eB] at HT
      have HB := Lib.hid eB
      clear eW0 eB
      have h7 : B ∉ [t, mM] ∧ B < W0.heap.size := ⟨by have := HT.out.1; simp; omega, by rw [SX.out.size]; omega⟩
      have h8 : B + 1 ∉ [t, mM] ∧ B + 1 < W0.heap.size := ⟨by have := HT.out.1; simp; omega, by rw [SX.out.size]; omega⟩
      have H78 := Lib.hid (And.intro h7 h8)
      have HI0 : Hid (SI W0 [t, mM] B (B + 1) [t, mM] [] W0) := Lib.hid ⟨fun b hb => .inl hb, rfl, rfl, rfl, Nat.le_refl _, fun b _ _ _ _ => rfl, SX.out.c9, SX.out.c10⟩
      clear h7 h8
      refine wp_block ?_
      refine (wpIn_wide (n := 5)).1 ?_
      refine range_exit (m := 4) (gf := 22) (pb := #[.pointer (some ⟨t, 0, none⟩)]) (lb := #[]) rfl EG.out EI.out (fun _ => rfl) (SI W0 [t, mM] B (B + 1)) (fun c T pre X => c = .exit 2 ∧ ((pre.length : Nat) : Int) = x1 ∧ SI W0 [t, mM] B (B + 1) T pre X) (SI.grows H78.out.1 H78.out.2) ?hIx [t, mM] ?hT (fun b hb => hb) ?hZ HI0.out ?round 2 (fun _ _ h => h) (fun T X => ∃ pre, SI W0 [t, mM] B (B + 1) T pre X ∧ (pre.length = m ∨ ((pre.length : Nat) : Int) = x1)) ?h1 (fun c T pre X h => ⟨h.1, pre, h.2.2, .inr h.2.1⟩) ?rest
      case hIx =>
        rintro c T T' s X Y ⟨k1, k2, k3⟩ k4 k5 k6
        exact ⟨k1, k2, SI.grows H78.out.1 H78.out.2 _ _ _ _ _ k3 k4 k5 k6⟩
      case hT =>
        intro b hb
        have h1 := HT.out.1
        have h2 := SX.out.size
        simp at hb
        rcases hb with rfl | rfl <;> omega
      case hZ =>
        intro W' hb
        refine (H.out.2.1.below ?_)
        rw [HB.out]
        exact SX.out.b.trans (hb.mono (by rw [SX.out.size]; omega))
      case h1 =>
        intro T xs X hf hI
        refine ⟨xs, hI, .inl ?_⟩
        rw [← H.out.2.2.2.1]
        exact ((List.perm_ext_iff_of_nodup (hf.1.imp fun hlt e => by omega) H.out.1.nodup).2 hf.2).length_eq
      case round =>
        rintro l1 TT pre x Wr hl1 hrec hox hTO ⟨hx1, hx2⟩ hI
        obtain ⟨o, ho⟩ := Option.isSome_iff_exists.1 ((H.out.1.mem x).1 hx2)
        have hob := H.out.1.ob x o ho
        have hgx : mpG G x = some (some o.b) := by unfold mpG; rw [ho]; rfl
        dsimp only [encA]
        rw [hgx]
        dsimp only [Option.getD_some, vP, Option.map_some]
        have hxr := H.out.2.2.2.2.2 x hx2
        have HI2 := Lib.hid (And.intro hI (And.intro hTO (And.intro hl1 (And.intro hx1 (And.intro hob hxr)))))
        clear hI hTO hl1 hrec hox hx1 hx2 ho hgx hob hxr
        gi_wp2
        refine ⟨Same.refl _ _, fun W2 ht hsz _ _ => ?_⟩
        obtain ⟨hI, hTO, hl1, hx1, hob, hxr⟩ := HI2.out
        have hT2 : ∀ b ∈ TT, b < W2.heap.size := fun b hb => by rw [hsz]; exact hTO b (List.mem_append_right _ hb)
        have hI2 : SI W0 [t, mM] B (B + 1) TT pre W2 := SI.grows H78.out.1 H78.out.2 _ _ _ _ _ hI hTO (ht.mono fun b hb => List.mem_append_right _ (by rw [List.mem_singleton.1 hb]; exact hl1)) fun b hb => ⟨.inl (List.mem_append_right _ hb), hT2 b hb⟩
        obtain ⟨hown, ⟨hux, _, _⟩, ⟨cs, hcs, _, hc2, _⟩, _⟩ := hob
        have hcl := (Array.getElem?_eq_some_iff.1 hcs).1
        have hne : o.b ≠ t ∧ o.b ≠ mM := by
          constructor
          · intro e
            have := H.out.1.tb
            rw [← e, hcs] at this
            injection this with this
            injection this with _ this
            cases this
          · intro e
            exact H.out.1.mapG.2.not_row (by rw [← e]; exact hcs)
        have hbB : o.b ≠ B ∧ o.b ≠ B + 1 := by have := HB.out; omega
        have hSB : S ≠ B ∧ S ≠ B + 1 := by have := HT.out; omega
        -- what is read, at any such time
        have RX := Lib.hid (show ∀ TT' pre' wS, SI W0 [t, mM] B (B + 1) TT' pre' wS → wS.cell? ⟨o.b, 2, none⟩ = some (.int .u64 (x : Int)) ∧ wS.cell? ⟨S, 0, none⟩ = some (.int .i64 x1) from fun TT' pre' wS hI' => by
          have hb := SX.out.b
          have hz := SX.out.size
          have e1 := (hI'.keep o.b (by have := HB.out; omega) (by simp; exact hne) hbB.1 hbB.2).trans ((hb.block o.b (by have := HB.out; omega)).trans hcs)
          have e2 := (hI'.keep S (by have := HT.out; omega) (by have := HT.out.2.1; simp; omega) hSB.1 hSB.2).trans ((hb.block S (by have := HT.out; omega)).trans H.out.2.2.1.c3)
          exact ⟨by rw [cell_of_row _ _ _ _ _ (0, 0) e1]; exact hc2, by rw [cell_of_row _ _ _ _ _ (0, 0) e2]; rfl⟩)
        have hlast : ∃ la : Nat, pre.getLastD 0 = la ∧ la < x := by
          refine ⟨_, rfl, ?_⟩
          rcases List.eq_nil_or_concat pre with rfl | ⟨q, y, rfl⟩
          · show 0 < x; omega
          · rw [List.concat_eq_append] at hx1 ⊢
            rw [List.getLastD_concat]
            have := List.pairwise_append.1 hx1
            exact this.2.2 y (by simp) x (by simp)
        obtain ⟨la, ela, hla⟩ := hlast
        have HF := Lib.hid (fun (wS : World) (hS : Below W2.heap.size W2 wS) => (show wS.cell? ⟨o.b, 2, none⟩ = some (.int .u64 (x : Int)) ∧ wS.cell? ⟨B, 0, none⟩ = some (.int .u64 (la : Int)) ∧ wS.cell? ⟨S, 0, none⟩ = some (.int .i64 x1) from by
          have h3 := hI2.below H78.out.1 H78.out.2 hT2 hS
          have h4 := RX.out _ _ _ h3
          exact ⟨h4.1, by rw [cell_of_row _ _ _ _ _ (0, 0) h3.c7, ela]; rfl, h4.2⟩))
        have lex : decide (x ≤ la) = false := by simp; omega
        have hpl : pre.length ≤ 65535 := by
          have := rise_le (pre ++ [x]) 65536 hx1 fun y hy => by
            rcases List.mem_append.1 hy with hy | hy
            · have := (List.pairwise_append.1 hx1).2.2 y hy x (by simp); omega
            · have := List.mem_singleton.1 hy; omega
          rw [List.length_append] at this
          simp at this; omega
        have HE := Lib.hid (And.intro hI2 (And.intro hT2 (And.intro hpl (And.intro hbB hSB))))
        clear hI hTO hl1 hx1 hT2 hI2 ht hsz hown hux hcs hc2 hcl hne hbB hSB hpl hla ela hxr HI2
        gi_wp2_with fail
        refine region_AU_round (Z := fun j => false) (S := fun w' => Below W2.heap.size W2 w') (by kernel_rfl) (by kernel_rfl) (fun ⟨_, _, h⟩ => h) ((Below.refl _ _).drew) (fun hHeld => ?_)
        refine AUS_take (by kernel_rfl) rfl (i := 0) (oi := _) (v := ?vw200) rfl (by kernel_rfl) (by kernel_rfl) (by kernel_rfl) (fun _ _ _ h => h) (Or.inl ⟨by rfl, ?hz200⟩) hHeld ?rst200
        case hz200 => (intro wS hSw; clear hSw; go_simp; try with_reducible rfl)
        simp only [Act.put, List.getElem_toArray, List.getElem_cons_zero, List.getElem_cons_succ, List.setIfInBounds_toArray, List.set_cons_zero, List.set_cons_succ]
        refine AUS_take (by kernel_rfl) rfl (i := 1) (oi := _) (v := ?vw201) rfl (by kernel_rfl) (by kernel_rfl) (by kernel_rfl) (fun _ _ _ h => h) (Or.inl ⟨by rfl, ?hz201⟩) hHeld ?rst201
        case hz201 => (intro wS hSw; clear hSw; go_simp; try with_reducible rfl)
        simp only [Act.put, List.getElem_toArray, List.getElem_cons_zero, List.getElem_cons_succ, List.setIfInBounds_toArray, List.set_cons_zero, List.set_cons_succ]
        refine AUS_take (by kernel_rfl) rfl (i := 2) (oi := _) (v := ?vw202) rfl (by kernel_rfl) (by kernel_rfl) (by kernel_rfl) (fun _ _ _ h => h) (Or.inl ⟨by rfl, ?hz202⟩) hHeld ?rst202
        case hz202 => (intro wS hSw; clear hSw; go_simp; try with_reducible rfl)
        simp only [Act.put, List.getElem_toArray, List.getElem_cons_zero, List.getElem_cons_succ, List.setIfInBounds_toArray, List.set_cons_zero, List.set_cons_succ]
        refine AUS_take (by kernel_rfl) rfl (i := 3) (oi := _) (v := ?vw203) rfl (by kernel_rfl) (by kernel_rfl) (by kernel_rfl) (fun _ _ _ h => h) (Or.inl ⟨by rfl, ?hz203⟩) hHeld ?rst203
        case hz203 => (intro wS hSw; obtain ⟨f1, f2, f3⟩ := HF.out wS hSw; clear hSw; go_simp; try with_reducible rfl)
        simp only [Act.put, List.getElem_toArray, List.getElem_cons_zero, List.getElem_cons_succ, List.setIfInBounds_toArray, List.set_cons_zero, List.set_cons_succ]
        refine AUS_take (by kernel_rfl) rfl (i := 4) (oi := _) (v := ?vw204) rfl (by kernel_rfl) (by kernel_rfl) (by kernel_rfl) (fun _ _ _ h => h) (Or.inl ⟨by rfl, ?hz204⟩) hHeld ?rst204
        case hz204 => (intro wS hSw; obtain ⟨f1, f2, f3⟩ := HF.out wS hSw; clear hSw; go_simp; try with_reducible rfl)
        simp only [Act.put, List.getElem_toArray, List.getElem_cons_zero, List.getElem_cons_succ, List.setIfInBounds_toArray, List.set_cons_zero, List.set_cons_succ]
        refine AUS_take (by kernel_rfl) rfl (i := 5) (oi := _) (v := ?vw205) rfl (by kernel_rfl) (by kernel_rfl) (by kernel_rfl) (fun _ _ _ h => h) (Or.inl ⟨by rfl, ?hz205⟩) hHeld ?rst205
        case hz205 => (intro wS hSw; clear hSw; go_simp; try with_reducible rfl)
        simp only [Act.put, List.getElem_toArray, List.getElem_cons_zero, List.getElem_cons_succ, List.setIfInBounds_toArray, List.set_cons_zero, List.set_cons_succ]
        try simp only [lex]
        refine AU_done (by kernel_rfl) ?_ _
        obtain ⟨hI2, hT2, hpl, ⟨hh1, hh2⟩, hh3, hh4⟩ := HE.out
        have hb3 : Below W2.heap.size W2 W2.drew := (Below.refl _ _).drew
        have hI3 := hI2.below H78.out.1 H78.out.2 hT2 hb3
        have hs3 : Same TT W2 W2.drew := fun b hb => rfl
        obtain ⟨f1, f2, f3⟩ := HF.out _ hb3
        obtain ⟨W3, eW3⟩ : ∃ W3, W2.drew = W3 := ⟨_, rfl⟩
        rw [eW3] at hb3 hI3 hs3 f1 f2 f3
        rw [eW3]
        obtain ⟨pl, epl⟩ : ∃ pl, pre.length = pl := ⟨_, rfl⟩
        rw [epl] at hpl
        have d8 : W3.cell? ⟨B + 1, 0, none⟩ = some (.int .i64 (pl : Int)) := by rw [cell_of_row _ _ _ _ _ (0, 0) hI3.c8, ← epl]; rfl
        have e7 : W3.frozen? ⟨B, 0, none⟩ = false := frozen_of_row _ _ _ _ _ hI3.c7
        have e8 : W3.frozen? ⟨B + 1, 0, none⟩ = false := frozen_of_row _ _ _ _ _ hI3.c8
        have i1 : IntKind.i64.wrap ((pl : Int) + 1) = ((pl + 1 : Nat) : Int) := by rw [IntKind.wrap_i64]; omega
        have i1' : RowKit.wrap64 ((pl : Int) + 1) = ((pl + 1 : Nat) : Int) := by unfold RowKit.wrap64; omega
        obtain ⟨hI5, hs5⟩ := SI.step H78.out.1 H78.out.2 (by omega) (x := x) hI3
        rw [epl] at hI5 hs5
        obtain ⟨W5, eW5⟩ : ∃ W5, (W3.setCell ⟨B, 0, none⟩ (.int .u64 (x : Int))).setCell ⟨B + 1, 0, none⟩ (.int .i64 ((pl + 1 : Nat) : Int)) = W5 := ⟨_, rfl⟩
        rw [eW5] at hI5 hs5
        have H5 := Lib.hid (And.intro hI5 (And.intro (hs3.trans hs5) (show ((pre ++ [x]).length : Nat) = pl + 1 from by rw [List.length_append, epl]; rfl)))
        clear hI2 hT2 hb3 hI3 hs3 eW3 hpl epl hI5 hs5 hHeld
        by_cases hst : ((pl + 1 : Nat) : Int) = x1
        · have k1 : (((pl + 1 : Nat) : Int) == x1) = true := by simp [hst]
          have k2 : ((pl : Int) + 1 == x1) = true := k1
          have HST := Lib.hid hst
          clear hst
          gi_wp2_with fail
          rw [show ((pl : Int) + 1) = ((pl + 1 : Nat) : Int) from rfl, eW5]
          exact ⟨H5.out.2.1, rfl, by rw [H5.out.2.2]; exact HST.out, H5.out.1⟩
        · have k1 : (((pl + 1 : Nat) : Int) == x1) = false := by simpa using hst
          have k2 : ((pl : Int) + 1 == x1) = false := k1
          clear hst
          gi_wp2_with fail
          rw [show ((pl : Int) + 1) = ((pl + 1 : Nat) : Int) from rfl, eW5]
          exact ⟨H5.out.2.1, H5.out.1⟩
      case rest =>
        rintro D X hD hDX hDT ⟨pre, hI, hpm⟩ hKD hsm
        have hb : Below wa.heap.size wa X := by
          have e := HB.out
          have sx := SX.out.b
          have sz := SX.out.size
          rw [e]
          refine ⟨hI.os.trans sx.os, hI.tape.trans sx.tape, hI.output.trans sx.output, Nat.le_trans sx.size hI.size, fun b hb => ?_⟩
          by_cases h0 : b ∈ [t, mM]
          · exact (hsm b h0).trans (sx.block b hb)
          · exact (hI.keep b (by omega) h0 (by omega) (by omega)).trans (sx.block b hb)
        have hT9 : TS W [S, S + 1, D] t (some mM) ns G X := H.out.1.more hb fun b hm => by
          have e := HB.out
          have h1 := HT.out
          have h2 := SX.out.size
          have h3 := hb.size
          simp at hm
          rcases hm with rfl | rfl | rfl
          · exact ⟨.inl (by simp), by omega⟩
          · exact ⟨.inl (by simp), by omega⟩
          · exact ⟨.inr (by omega), hDX⟩
        have hX9 := H.out.2.2.1.below hb
        obtain ⟨pl, epl⟩ : ∃ pl, pre.length = pl := ⟨_, rfl⟩
        rw [epl] at hpm
        have c10 : X.cell? ⟨B + 1, 0, none⟩ = some (.int .i64 (pl : Int)) := by rw [cell_of_row _ _ _ _ _ (0, 0) hI.c8, ← epl]; rfl
        have c3 : X.cell? ⟨S, 0, none⟩ = some (.int .i64 x1) := by rw [cell_of_row _ _ _ _ _ (0, 0) hX9.c3]; rfl
        have CL := Lib.hid (len_any hT9)
        rw [H.out.2.2.2.1] at CL
        have CA := Lib.hid (add_nil (t := t) X)
        have b1 := below_alloc1 X (Obj.cells (ocs Try.zeroCells60 (.int .u64 ((0 : Nat) : Int)) (.int .i64 0) (.int .u64 ((0 : Nat) : Int))) 60)
        have ho := OB.new (w := X) (nm := 0) (hm := 0) (own := own_ W [S, S + 1, D]) (u64_of (by omega)) (u64_of (by omega)) 0 0 (own_new hT9 (Nat.le_refl _))
        have hTb := hT9.below b1
        have hXb := hX9.below b1
        have hKb := (b1.block D hDX).trans hKD
        obtain ⟨bg, ebg⟩ : ∃ bg : Nat, bg = 1099511627776 := ⟨_, rfl⟩
        have hbu : U64 bg := ⟨by omega⟩
        have hfar : G bg = none := H.out.2.2.2.2.1.far (by omega)
        have CZ := Lib.hid (add_no hTb ho (may_zero _ _))
        have CG := Lib.hid (get_any hTb hbu)
        have CR := Lib.hid (remove_any hTb hbu (H.out.2.2.2.2.1.ks (by have := HJn.out; omega)) (by have := HM.out; have := H.out.2.2.2.1; omega))
        rw [hfar, ebg] at CG
        rw [ebg] at CR hfar
        have HFar := Lib.hid hfar
        have HDS := Lib.hid (show D ≠ S + 1 ∧ W.heap.size ≤ D from by have h1 := HT.out; have h2 := SX.out.size; have h3 := HS.out; omega)
        rw [show ((0 : Nat) : Int) = 0 from rfl, ← ocs0] at CZ CG CR hXb hKb b1
        have HXb := Lib.hid (And.intro hXb (And.intro hKb b1))
        clear hb hT9 hX9 hI epl b1 ho hTb hXb hKb hbu hfar ebg hD hDX hDT hsm hKD
        by_cases hp1 : pl = m
        · have k1 : ((pl : Int) == (m : Int)) = true := by simp [hp1]
          clear hp1 hpm
          go_wp2_with fail
          refine CL.out.mono ?_; rintro e y1 ⟨rfl, rfl⟩
          clear CL
          go_wp2_with fail
          refine CA.out.mono ?_; rintro e y2 ⟨rfl, rfl⟩
          clear CA
          go_wp2_with fail
          refine CZ.out.mono ?_; rintro e y3 ⟨rfl, rfl⟩
          clear CZ
          go_wp2_with fail
          refine CG.out.mono ?_; rintro e y4 ⟨rfl, rfl⟩
          clear CG
          simp only [pb, Option.map_none, vP]
          go_wp2_with fail
          refine CR.out.mono ?_; rintro e y5 ⟨v5, rfl, hP⟩
          clear CR
          obtain ⟨ns5, h5⟩ := hP.ts
          obtain ⟨A5, c5, ev5, _⟩ := hP.row.form
          have hs5 := hP.sm
          have hrm : (rm ns.length G 1099511627776).2 = [] := by unfold rm; rw [HFar.out]
          rw [hrm] at ev5
          subst ev5
          have hx5 := HXb.out.1.same h5.b (hs5.less fun b hb => by simp at hb ⊢; omega)
          have z1 : y5.cell? ⟨S + 1, 0, none⟩ = some (.bool false) := by rw [cell_of_row _ _ _ _ _ (0, 0) hx5.c4]; rfl
          have z2 : y5.frozen? ⟨S + 1, 0, none⟩ = false := frozen_of_row _ _ _ _ _ hx5.c4
          have hD5 := (hs5 D (by simp)).trans HXb.out.2.1
          have HF5 := Lib.hid (And.intro h5.b (And.intro hx5.c4 hD5))
          clear hP h5 hs5 hrm hx5 hD5 HFar
          go_wp2_with fail
          obtain ⟨hb5, hc5, hd5⟩ := HF5.out
          have hD2 : (y5.setCell ⟨S + 1, 0, none⟩ (.bool true)).heap[D]? = some (.deferred (some [])) := (heap_setCell_other y5 _ _ _ (fun e => HDS.out.1 e)).trans hd5
          have hT2 := heap_setCell_same y5 (S + 1) 0 _ 4 (.bool true) hc5
          have hB2 : Below W.heap.size W (y5.setCell ⟨S + 1, 0, none⟩ (.bool true)) := hb5.setCell (p := ⟨S + 1, 0, none⟩) (by have := HS.out; show W.heap.size ≤ S + 1; omega) _
          refine ⟨by simp, .inl ⟨_, _, rfl, run_takeDeferred hD2, ?_⟩⟩
          refine ⟨_, results_cell1 (by rfl) _ _ (S + 1) true rfl ?_, rfl, hB2.trans ((Turn.put _ D (.deferred none)).below hB2.size (fun b hb => by obtain rfl := List.mem_singleton.1 hb; exact HDS.out.2))⟩
          rw [cell_of_row _ _ 0 _ 4 (0, 0) ((World.putObj_heap_other (fun e => HDS.out.1 e.symm)).trans hT2)]; rfl
        · have k1 : ((pl : Int) == (m : Int)) = false := by simp; omega
          have k2 : ((pl : Int) == x1) = true := by
            rcases hpm with h | h
            · exact absurd h hp1
            · simp [h]
          clear hp1 hpm
          go_wp2_with fail
          refine CL.out.mono ?_; rintro e y1 ⟨rfl, rfl⟩
          clear CL
          go_wp2_with fail
          refine CA.out.mono ?_; rintro e y2 ⟨rfl, rfl⟩
          clear CA
          go_wp2_with fail
          refine CZ.out.mono ?_; rintro e y3 ⟨rfl, rfl⟩
          clear CZ
          go_wp2_with fail
          refine CG.out.mono ?_; rintro e y4 ⟨rfl, rfl⟩
          clear CG
          simp only [pb, Option.map_none, vP]
          go_wp2_with fail
          refine CR.out.mono ?_; rintro e y5 ⟨v5, rfl, hP⟩
          clear CR
          obtain ⟨ns5, h5⟩ := hP.ts
          obtain ⟨A5, c5, ev5, _⟩ := hP.row.form
          have hs5 := hP.sm
          have hrm : (rm ns.length G 1099511627776).2 = [] := by unfold rm; rw [HFar.out]
          rw [hrm] at ev5
          subst ev5
          have hx5 := HXb.out.1.same h5.b (hs5.less fun b hb => by simp at hb ⊢; omega)
          have z1 : y5.cell? ⟨S + 1, 0, none⟩ = some (.bool false) := by rw [cell_of_row _ _ _ _ _ (0, 0) hx5.c4]; rfl
          have z2 : y5.frozen? ⟨S + 1, 0, none⟩ = false := frozen_of_row _ _ _ _ _ hx5.c4
          have hD5 := (hs5 D (by simp)).trans HXb.out.2.1
          have HF5 := Lib.hid (And.intro h5.b (And.intro hx5.c4 hD5))
          clear hP h5 hs5 hrm hx5 hD5 HFar
          go_wp2_with fail
          obtain ⟨hb5, hc5, hd5⟩ := HF5.out
          have hD2 : (y5.setCell ⟨S + 1, 0, none⟩ (.bool true)).heap[D]? = some (.deferred (some [])) := (heap_setCell_other y5 _ _ _ (fun e => HDS.out.1 e)).trans hd5
          have hT2 := heap_setCell_same y5 (S + 1) 0 _ 4 (.bool true) hc5
          have hB2 : Below W.heap.size W (y5.setCell ⟨S + 1, 0, none⟩ (.bool true)) := hb5.setCell (p := ⟨S + 1, 0, none⟩) (by have := HS.out; show W.heap.size ≤ S + 1; omega) _
          refine ⟨by simp, .inl ⟨_, _, rfl, run_takeDeferred hD2, ?_⟩⟩
          refine ⟨_, results_cell1 (by rfl) _ _ (S + 1) true rfl ?_, rfl, hB2.trans ((Turn.put _ D (.deferred none)).below hB2.size (fun b hb => by obtain rfl := List.mem_singleton.1 hb; exact HDS.out.2))⟩
          rw [cell_of_row _ _ 0 _ 4 (0, 0) ((World.putObj_heap_other (fun e => HDS.out.1 e.symm)).trans hT2)]; rfl
end Go.Proofs.Ytodionedjokdmaa
