/- TableKids. -/
import Derived.Test.YtodionedjokdmaaOl
set_option linter.unusedVariables false
set_option linter.unusedSimpArgs false
namespace Go.Proofs.Ytodionedjokdmaa
open Go.RowKit
set_option linter.unusedVariables false
set_option linter.unusedSimpArgs false
/-- The table and what the law wants of it. -/
def KS (W : World) (t : Nat) (want : List Nat) (v : Value) (w : World) : Prop := ∃ M ns G TW, TS W TW t M ns G w ∧ (∀ b ∈ TW, W.heap.size ≤ b) ∧ RW (· ∈ TW) 28 inU w v want ∧ KG G want
/-- .. and the list of those that are left. -/
def KI (W : World) (t : Nat) (M : Option Nat) (ns : List Nat) (G : Nat → Option Ob) (TW : List Nat) (want : List Nat) (vw : Value) (left : List Nat) (vl : Value) (w : World) : Prop :=
  ∃ TL, TS W (TL ++ TW) t M ns G w ∧ (∀ b ∈ TL ++ TW, W.heap.size ≤ b) ∧ RW (· ∈ TL) 28 inU w vl left ∧ (∀ b ∈ TL, b ∉ TW) ∧ RW (· ∈ TW) 28 inU w vw want
theorem KI.snoc {W : World} {t : Nat} {M : Option Nat} {ns : List Nat} {G : Nat → Option Ob} {TW want left : List Nat} {vw vl : Value} {w : World} (ty : TypeId) (y : Nat) (h : KI W t M ns G TW want vw left vl w) (hl : left.length ≤ 1000) :
    ∃ v' w', (Builtin.append_ #[27, 27] ty #[vl, .slice (some ⟨w.heap.size, 0, none⟩) 1 1]).run Try.prog (w.alloc (Obj.cells #[.int .u64 (y : Int)] 28)) = .ok v' w' ∧ KI W t M ns G TW want vw (left ++ [y]) v' w' := by
  obtain ⟨TL, h1, h2, h3, h4, h5⟩ := h
  obtain ⟨v', w', TL', hrun, k1, k2, k3, k4, k5⟩ := lapp (y := y) ty h1 h2 h3 h4 hl
  exact ⟨v', w', hrun, TL', k1, k2, k3, k4, h5.same k5⟩
theorem KS.drewN {W : World} {t : Nat} {want : List Nat} {v : Value} {w : World} (h : KS W t want v w) (q : Nat) : KS W t want v (w.drewN q) := by
  obtain ⟨M, ns, G, TW, h1, h2, h3, h4⟩ := h
  exact ⟨M, ns, G, TW, h1.drewN q, h2, h3, h4⟩
theorem LR.drewN {w : World} {A : Option Addr} {xs : List Nat} (h : LR inU w A xs) (q : Nat) : LR inU (w.drewN q) A xs := h
theorem filter_take_succ {want : List Nat} {i y : Nat} (nm : Nat) (h : want[i]? = some y) : (want.take (i + 1)).filter (· != nm) = (want.take i).filter (· != nm) ++ (if y = nm then [] else [y]) := by
  rw [List.take_add_one, h, List.filter_append]
  congr 1
  by_cases e : y = nm
  · simp [e]
  · simp [e]
theorem filter_lt {want : List Nat} {nm : Nat} (h : nm ∈ want) : (want.filter (· != nm)).length < want.length := List.length_filter_lt_length_iff_exists.2 ⟨nm, h, by simp⟩
theorem filter_eq {want : List Nat} {nm : Nat} (h : nm ∉ want) : want.filter (· != nm) = want := List.filter_eq_self.2 fun x hx => by
  have : x ≠ nm := fun e => h (e ▸ hx)
  simpa using this
set_option maxHeartbeats 4000000 in
set_option maxRecDepth 100000 in
theorem kids_all (A : Option Addr) (n c : Nat) (xs : List Int) (W : World) (hc : n ≤ c) (hm : c ≤ maxLen) (hl : xs.length = n) (hr : LR inI W A xs) : Calls Try.prog 7 #[.slice A n c] W fun e w' => e = .returned (.bool true) ∧ Below W.heap.size W w' := by
  have CF := Lib.hid (fit_any W)
  by_cases hn : 60 < n
  · have q : (n : Int) > 60 := by omega
    clear hc hm hl hr hn
    go_enter Try.func7, Try.ntmps7
    go_wp2_with fail
    refine CF.out.mono ?_; rintro e w1 ⟨rfl, hb⟩
    have HB := Lib.hid hb
    clear hb
    go_wp2_with fail
    go_ret
    exact ⟨rfl, HB.out⟩
  have q : ¬ (n : Int) > 60 := by omega
  have HN := Lib.hid (And.intro hn (And.intro hl hr))
  clear hc hm hl hr hn
  go_enter Try.func7, Try.ntmps7
  go_wp2_with fail
  refine CF.out.mono ?_; rintro e w1 ⟨rfl, hb⟩
  have HB := Lib.hid hb
  have CN := Lib.hid (new_any w1)
  clear hb CF
  go_wp2_with fail
  refine CN.out.mono ?_; rintro e w2 ⟨rfl, rfl⟩
  clear CN q
  have h1 := TS.new (W := W) (T := []) HB.out (by simp)
  obtain ⟨t, et⟩ : ∃ t, w1.heap.size = t := ⟨_, rfl⟩
  obtain ⟨w2, e2⟩ : ∃ w2, w1.alloc (Obj.cells #[.map none] 92) = w2 := ⟨_, rfl⟩
  rw [e2, et] at h1
  rw [e2, et]
  have ho1 := OB.new (w := w2) (nm := 1) (hm := 0) (own := own_ W []) (u64_of (by omega)) (u64_of (by omega)) 1 0 (own_new h1 (Nat.le_refl _))
  have h2 := h1.below (below_alloc1 w2 (Obj.cells (ocs Try.zeroCells60 (.int .u64 ((1 : Nat) : Int)) (.int .i64 1) (.int .u64 ((0 : Nat) : Int))) 60))
  have C2 := Lib.hid (add_any h2 ho1 (fun k o' h => by cases h) (by simp))
  rw [show may (fun _ => none) 1 ⟨w2.heap.size, 1, 0, [], none, 0⟩ = true from rfl] at C2
  rw [show ((1 : Nat) : Int) = 1 from rfl, show ((0 : Nat) : Int) = 0 from rfl, ← ocs2] at C2
  clear e2 h1 h2 ho1 et
  go_wp2_with fail
  refine C2.out.mono ?_; rintro e w3 ⟨rfl, ⟨M3, h3⟩, _⟩
  simp only [if_true, List.nil_append] at h3
  replace h3 : TS W [] t M3 [1] (updN (fun _ => none) 1 (some ⟨w2.heap.size, 1, 0, [], none, 0⟩)) w3 := h3
  have HS : Hid (KS W t [] (.slice none 0 0) w3) := Lib.hid ⟨_, _, _, _, h3, by simp, RW.nil _ _, ⟨⟨_, rfl⟩, fun k h1 _ => updN_other _ _ h1, by simp, List.nodup_nil, by simp⟩⟩
  clear C2 h3
  have hnn := HN.out.1
  go_wp2_with fail
  go_loopg [4, 25] n (fun gh v4 v25 wr => ∃ (j : Nat) (want : List Nat), j ≤ n ∧ n - j ≤ gh ∧ want.length ≤ j ∧ v25 = .int .i64 j ∧ Hid (KS W t want v4 wr))
  case atStart => exact ⟨0, [], Nat.zero_le _, by omega, Nat.zero_le _, rfl, HS⟩
  case round =>
    clear HS
    obtain ⟨j, want, hj, hg, hwj, rfl, hI⟩ := hrel
    by_cases hlt : j < n
    · obtain ⟨M, ns, G, TW, hT, hTW, hv, hK⟩ := hI.out
      obtain ⟨x, hx⟩ : ∃ x, xs[j]? = some x := ⟨_, List.getElem?_eq_getElem (by have := HN.out.2.1; omega)⟩
      obtain ⟨ab, ao, rfl, abl, c0⟩ := (HN.out.2.2.below hT.b) j x hx
      unfold inI at c0
      obtain ⟨m, em, hm8⟩ := and7 x
      obtain ⟨nm, enm⟩ : ∃ nm : Nat, m + 2 = nm := ⟨_, rfl⟩
      have i0 : IntKind.i64.wrap ((m : Int) + 2) = (nm : Int) := by rw [IntKind.wrap_i64]; omega
      have i2 : IntKind.u64.wrap (nm : Int) = (nm : Int) := by rw [IntKind.wrap_u64]; omega
      have i1 : IntKind.i64.wrap ((j : Int) + 1) = ((j + 1 : Nat) : Int) := by rw [IntKind.wrap_i64]; omega
      have l1 : (j : Int) < n := by omega
      have HNM := Lib.hid (show 2 ≤ nm ∧ nm ≤ 9 by omega)
      have HJ := Lib.hid (show j + 1 ≤ n ∧ j < n ∧ want.length ≤ j ∧ n ≤ 60 by omega)
      have HK := Lib.hid hK
      have HKI : Hid (KI W t M ns G TW want _ [] (.slice none 0 0) wr) := Lib.hid ⟨[], hT, hTW, RW.nil _ _, by simp, hv⟩
      obtain ⟨A4, c4, rfl, _⟩ := hv.form
      obtain ⟨L, eL⟩ : ∃ L, want.length = L := ⟨_, rfl⟩
      rw [eL] at HKI HJ ⊢
      have HL := Lib.hid eL
      clear hT hTW hv hK hx abl hm8 enm hlt hj hwj eL hI
      go_wp2_with fail
      clear c0 em i0 i2
      go_loopg [8, 35] L (fun gh v8 v35 wr => ∃ (i : Nat), i ≤ L ∧ L - i ≤ gh ∧ v35 = .int .i64 i ∧ Hid (KI W t M ns G TW want (.slice A4 L c4) ((want.take i).filter (· != nm)) v8 wr))
      case atStart => exact ⟨0, Nat.zero_le _, by omega, rfl, HKI⟩
      case round =>
        clear HKI
        obtain ⟨i, hi, hgi, rfl, hII⟩ := hrel
        have hJJ := HJ.out
        by_cases hil : i < L
        · obtain ⟨y, hy⟩ : ∃ y, want[i]? = some y := ⟨_, List.getElem?_eq_getElem (by rw [HL.out]; exact hil)⟩
          obtain ⟨yb, yo, rfl, ybl, c1⟩ : ∃ b off, A4 = some ⟨b, off, none⟩ ∧ b < wr.heap.size ∧ wr.cell? ⟨b, off + i, none⟩ = some (inU y) := by
            obtain ⟨TL, _, _, _, _, k5⟩ := hII.out
            obtain ⟨A', c', ev, _, _, hlr⟩ := k5.form
            injection ev with e1 _ _
            rw [← e1] at hlr
            exact hlr i y hy
          unfold inU at c1
          have l2 : (i : Int) < L := by omega
          have i3 : IntKind.i64.wrap ((i : Int) + 1) = ((i + 1 : Nat) : Int) := by rw [IntKind.wrap_i64]; omega
          have hft := filter_take_succ nm hy
          have HG := Lib.hid (show i + 1 ≤ L ∧ i < L by omega)
          by_cases hyn : y = nm
          · rw [if_pos hyn, List.append_nil] at hft
            rw [← hft] at hII
            have q : ((y : Int) != (nm : Int)) = false := by simp [hyn]
            have q' : (y : Int) = (nm : Int) := by omega
            clear hy ybl hyn hft hil hi hJJ
            go_wp2_with fail
            go_roundg (L - (i + 1))
            case rel => exact ⟨i + 1, HG.out.1, Nat.le_refl _, by first | rfl | simp, hII⟩
            case measure => have := HG.out; omega
          · rw [if_neg hyn] at hft
            have q : ((y : Int) != (nm : Int)) = true := by simp; omega
            have q' : ¬ (y : Int) = (nm : Int) := by omega
            obtain ⟨v', w', hrun, hI'⟩ := hII.out.snoc 27 y (by
              have := List.length_filter_le (· != nm) (want.take i)
              have := List.length_take_le i want
              omega)
            rw [← hft] at hI'
            have HI' := Lib.hid hI'
            have HR := Lib.hid hrun
            clear hy ybl hyn hft hil hi hJJ hI' hrun hII
            go_wp2_with (at_builtin; refine wpList_append_by rfl (.tmp 42) (.tmp 44) _ _ rfl _ _ _ rfl rfl w' HR.out ?_)
            clear HR
            go_wp2_with fail
            go_roundg (L - (i + 1))
            case rel => exact ⟨i + 1, HG.out.1, Nat.le_refl _, by first | rfl | simp, HI'⟩
            case measure => have := HG.out; omega
        · obtain rfl : i = L := by omega
          rw [List.take_of_length_le (by rw [HL.out]; exact Nat.le_refl _)] at hII
          obtain ⟨TL, k1, k2, k3, k4, k5⟩ := hII.out
          obtain ⟨A8, c8, rfl, _⟩ := k3.form
          obtain ⟨F, eF⟩ : ∃ F, (want.filter (· != nm)).length = F := ⟨_, rfl⟩
          rw [eF] at k3 ⊢
          have HII := Lib.hid (And.intro k2 (And.intro k3 (And.intro k4 k5)))
          have hlen := HK.out.len k1
          have CR := Lib.hid (remove_any (n := nm) k1 (u64_of (by have := HNM.out; omega)) (HK.out.ks (by rw [HL.out]; omega)) (by rw [hlen, HL.out]; omega))
          obtain ⟨hrm, hKr⟩ := HK.out.rm (n := nm) (f := ns.length) HNM.out.1 (by omega)
          have hFl : F ≤ i := by rw [← eF, ← HL.out]; exact List.length_filter_le _ _
          have hFL : (nm ∈ want → F < i) ∧ (nm ∉ want → F = i) := ⟨fun h => by rw [← eF, ← HL.out]; exact filter_lt h, fun h => by rw [← eF, filter_eq h]; exact HL.out⟩
          have HM := Lib.hid (And.intro hrm (And.intro hKr (And.intro hFL (And.intro eF hFl))))
          clear k1 k2 k3 k4 k5 hlen hrm hKr hFL eF hFl hil hi hJJ hII hgi
          go_wp2_with fail
          refine CR.out.mono ?_; rintro e w5 ⟨v5, rfl, hP⟩
          clear CR
          obtain ⟨hrm, hKr, hFL, eF, hFl⟩ := HM.out
          obtain ⟨ns5, h5⟩ := hP.ts
          obtain ⟨A5, c5, ev5, _⟩ := hP.row.form
          have hs5 := hP.sm
          obtain ⟨K5, eK5⟩ : ∃ K5, ((rm ns.length G nm).2).length = K5 := ⟨_, rfl⟩
          rw [eK5] at ev5
          subst ev5
          have hcase : (K5 = 1 ∧ (F : Int) < (i : Int)) ∨ (K5 = 0 ∧ ¬ (F : Int) < (i : Int)) := by
            rw [← eK5, hrm]
            by_cases hm : nm ∈ want
            · have := hFL.1 hm; exact .inl ⟨by simp [hm], by omega⟩
            · have := hFL.2 hm; exact .inr ⟨by simp [hm], by omega⟩
          obtain ⟨G5, eG5⟩ : ∃ G5, (rm ns.length G nm).1 = G5 := ⟨_, rfl⟩
          rw [eG5] at h5 hKr
          obtain ⟨k2, k3, k4, k5⟩ := HII.out
          have k3 := k3.same (hs5.less fun b hb => List.mem_append_left _ hb)
          have k5 := k5.same (hs5.less fun b hb => List.mem_append_right _ hb)
          have hnf : nm ∉ want.filter (· != nm) := fun hm => by have := (List.mem_filter.1 hm).2; simp at this
          have ho6 := OB.new (w := w5) (nm := nm) (hm := 1) (own := own_ W (TL ++ TW)) (u64_of (by have := HNM.out; omega)) (u64_of (by omega)) 6 0 (own_new h5 (Nat.le_refl _))
          have b6 := below_alloc1 w5 (Obj.cells (ocs Try.zeroCells60 (.int .u64 (nm : Int)) (.int .i64 6) (.int .u64 ((1 : Nat) : Int))) 60)
          obtain ⟨hmay, hK6⟩ := hKr.add HNM.out hnf w5.heap.size
          have C6 := Lib.hid (add_any (h5.below b6) ho6 (hKr.ks (by rw [eF]; have := HJ.out; omega)) (by rw [hKr.len h5, eF]; have := HJ.out; omega))
          rw [hmay] at C6
          have HS6 := Lib.hid (h5.same b6)
          have HK6 := Lib.hid hK6
          unfold ocs at C6 HS6
          rw [show ((1 : Nat) : Int) = 1 from rfl] at C6 HS6
          have HKI5 := Lib.hid (And.intro k2 (And.intro k3 (And.intro k4 k5)))
          have HF := Lib.hid (And.intro eF hFl)
          clear k2 k3 k4 k5 hP h5 hs5 hrm hKr hFL eF hFl hnf ho6 b6 hmay hK6 eK5 eG5 HM HII HNM
          rcases hcase with ⟨rfl, q1⟩ | ⟨rfl, q1⟩
          · go_wp2_with fail
            refine C6.out.mono ?_; rintro e w6 ⟨rfl, ⟨M6, h6⟩, hs6⟩
            clear C6 q1
            simp only [if_true] at h6
            obtain ⟨k2, k3, k4, k5⟩ := HKI5.out
            have hs56 := HS6.out.trans hs6
            have k3 := k3.same (hs56.less fun b hb => List.mem_append_left _ hb)
            have k5 := k5.same (hs56.less fun b hb => List.mem_append_right _ hb)
            obtain ⟨G6, eG6⟩ : ∃ G6, addG G5 nm ⟨w5.heap.size, 6, 1, [], none, 0⟩ = G6 := ⟨_, rfl⟩
            rw [eG6] at h6 HK6
            have hKI6 : KI W t M6 (ns5 ++ [nm]) G6 TW want (.slice A4 i c4) (want.filter (· != nm)) (.slice A8 F c8) w6 := ⟨TL, h6, k2, k3, k4, k5⟩
            obtain ⟨v7, w7, hrun7, hKI7⟩ := hKI6.snoc 27 nm (by rw [HF.out.1]; have := HF.out.2; have := HJ.out; omega)
            obtain ⟨TL7, m1, m2, m3, m4, m5⟩ := hKI7
            have h7 := m1.less (T' := TL7) fun b hb => List.mem_append_left _ hb
            have hKS7 : KS W t (want.filter (· != nm) ++ [nm]) v7 w7 := ⟨_, _, _, TL7, h7, fun b hb => m2 b (List.mem_append_left _ hb), m3, HK6.out⟩
            obtain ⟨A7, c7, rfl, _⟩ := m3.form
            obtain ⟨b1, hb1⟩ := HK6.out.root
            have CG := Lib.hid (get_any (n := 1) h7 (u64_of (by omega)))
            rw [hb1, show pb (some ⟨b1, 1, 0, want.filter (· != nm) ++ [nm], none, 0⟩) = .pointer (some ⟨b1, 0, none⟩) from rfl, show ((1 : Nat) : Int) = 1 from rfl] at CG
            obtain ⟨-, -, -, -, vk, d15, hvk⟩ := (h7.ob 1 _ hb1).cells
            obtain ⟨Ak, ck, rfl, _, _, hlk⟩ := hvk.form
            obtain ⟨K7, eK7⟩ : ∃ K7, (want.filter (· != nm) ++ [nm]).length = K7 := ⟨_, rfl⟩
            simp only at d15 hlk
            rw [eK7] at d15 hrun7 hKS7
            have H7 : Hid (KS W t (want.filter (· != nm) ++ [nm]) (.slice A7 K7 c7) w7 ∧ LR inU w7 Ak (want.filter (· != nm) ++ [nm])) := Lib.hid ⟨hKS7, hlk⟩
            have HR := Lib.hid hrun7
            have HK7 := Lib.hid (show K7 ≤ j + 1 ∧ (want.filter (· != nm) ++ [nm]).length = K7 from ⟨by rw [← eK7, List.length_append, HF.out.1]; simp; have := HF.out.2; have := HJ.out; omega, eK7⟩)
            obtain ⟨w', ew'⟩ : ∃ w', want.filter (· != nm) ++ [nm] = w' := ⟨_, rfl⟩
            rw [ew'] at H7 HK7
            clear h6 hs6 k2 k3 k4 k5 hs56 eG6 hKI6 m1 m2 m3 m4 m5 h7 hKS7 hb1 hvk hlk eK7 hrun7 HK6 HKI5 HS6 HF ew'
            go_wp2_with (at_builtin; refine wpList_append_by rfl (.tmp 66) (.tmp 68) _ _ rfl _ _ _ rfl rfl w7 HR.out ?_)
            clear HR
            go_wp2_with fail
            refine CG.out.mono ?_; rintro e w8 ⟨rfl, rfl⟩
            clear CG
            go_wp2_with fail
            have hJ9 := HJ.out
            have hK9 := HK7.out
            clear d15
            go_loopg [82] K7 (fun gh v82 wr => ∃ q : Nat, q ≤ K7 ∧ K7 - q ≤ gh ∧ v82 = .int .i64 q ∧ Hid (KS W t w' (.slice A7 K7 c7) wr ∧ LR inU wr Ak w'))
            case atStart => exact ⟨0, Nat.zero_le _, by omega, rfl, H7⟩
            case round =>
              clear H7
              obtain ⟨q, hq, hgq, rfl, hQ⟩ := hrel
              by_cases hql : q < K7
              · obtain ⟨y, hy⟩ : ∃ y, w'[q]? = some y := ⟨_, List.getElem?_eq_getElem (by rw [HK7.out.2]; exact hql)⟩
                obtain ⟨gb, go, rfl, _, c8⟩ := hQ.out.2 q y hy
                obtain ⟨yb, yo, rfl, ybl, c9⟩ : ∃ b off, A7 = some ⟨b, off, none⟩ ∧ b < wr.heap.size ∧ wr.cell? ⟨b, off + q, none⟩ = some (inU y) := by
                  obtain ⟨_, _, _, TW', _, _, k5, _⟩ := hQ.out.1
                  obtain ⟨A', c', ev, _, _, hlr⟩ := k5.form
                  injection ev with e1 _ _
                  rw [← e1] at hlr
                  exact hlr q y hy
                unfold inU at c8 c9
                have l4 : (q : Int) < K7 := by omega
                have i4 : IntKind.i64.wrap ((q : Int) + 1) = ((q + 1 : Nat) : Int) := by rw [IntKind.wrap_i64]; omega
                have HG := Lib.hid (show q + 1 ≤ K7 ∧ q < K7 by omega)
                clear hy ybl hql hq hJ9 hK9
                go_upto_region 28 with fail
                go_quiet (fail)
                rename_i nq
                have HQ2 := Lib.hid (And.intro (hQ.out.1.drewN nq) (hQ.out.2.drewN nq))
                clear c8 c9 hQ
                go_wp2_with fail
                go_roundg (K7 - (q + 1))
                case rel => exact ⟨q + 1, HG.out.1, Nat.le_refl _, by first | rfl | simp, HQ2⟩
                case measure => have := HG.out; omega
              · obtain rfl : q = K7 := by omega
                have HKS := Lib.hid hQ.out.1
                clear hql hgq hq hQ hJ9 hK9
                go_wp2_with fail
                go_roundg (n - (j + 1))
                case rel => exact ⟨j + 1, w', HJ.out.1, Nat.le_refl _, by rw [HK7.out.2]; exact HK7.out.1, by first | rfl | simp, HKS⟩
                case measure => have := HJ.out; omega
          · go_wp2_with fail
            refine C6.out.mono ?_; rintro e w6 ⟨rfl, ⟨M6, h6⟩, hs6⟩
            clear C6 q1
            simp only [if_true] at h6
            obtain ⟨k2, k3, k4, k5⟩ := HKI5.out
            have hs56 := HS6.out.trans hs6
            have k3 := k3.same (hs56.less fun b hb => List.mem_append_left _ hb)
            have k5 := k5.same (hs56.less fun b hb => List.mem_append_right _ hb)
            obtain ⟨G6, eG6⟩ : ∃ G6, addG G5 nm ⟨w5.heap.size, 6, 1, [], none, 0⟩ = G6 := ⟨_, rfl⟩
            rw [eG6] at h6 HK6
            have hKI6 : KI W t M6 (ns5 ++ [nm]) G6 TW want (.slice A4 i c4) (want.filter (· != nm)) (.slice A8 F c8) w6 := ⟨TL, h6, k2, k3, k4, k5⟩
            obtain ⟨v7, w7, hrun7, hKI7⟩ := hKI6.snoc 27 nm (by rw [HF.out.1]; have := HF.out.2; have := HJ.out; omega)
            obtain ⟨TL7, m1, m2, m3, m4, m5⟩ := hKI7
            have h7 := m1.less (T' := TL7) fun b hb => List.mem_append_left _ hb
            have hKS7 : KS W t (want.filter (· != nm) ++ [nm]) v7 w7 := ⟨_, _, _, TL7, h7, fun b hb => m2 b (List.mem_append_left _ hb), m3, HK6.out⟩
            obtain ⟨A7, c7, rfl, _⟩ := m3.form
            obtain ⟨b1, hb1⟩ := HK6.out.root
            have CG := Lib.hid (get_any (n := 1) h7 (u64_of (by omega)))
            rw [hb1, show pb (some ⟨b1, 1, 0, want.filter (· != nm) ++ [nm], none, 0⟩) = .pointer (some ⟨b1, 0, none⟩) from rfl, show ((1 : Nat) : Int) = 1 from rfl] at CG
            obtain ⟨-, -, -, -, vk, d15, hvk⟩ := (h7.ob 1 _ hb1).cells
            obtain ⟨Ak, ck, rfl, _, _, hlk⟩ := hvk.form
            obtain ⟨K7, eK7⟩ : ∃ K7, (want.filter (· != nm) ++ [nm]).length = K7 := ⟨_, rfl⟩
            simp only at d15 hlk
            rw [eK7] at d15 hrun7 hKS7
            have H7 : Hid (KS W t (want.filter (· != nm) ++ [nm]) (.slice A7 K7 c7) w7 ∧ LR inU w7 Ak (want.filter (· != nm) ++ [nm])) := Lib.hid ⟨hKS7, hlk⟩
            have HR := Lib.hid hrun7
            have HK7 := Lib.hid (show K7 ≤ j + 1 ∧ (want.filter (· != nm) ++ [nm]).length = K7 from ⟨by rw [← eK7, List.length_append, HF.out.1]; simp; have := HF.out.2; have := HJ.out; omega, eK7⟩)
            obtain ⟨w', ew'⟩ : ∃ w', want.filter (· != nm) ++ [nm] = w' := ⟨_, rfl⟩
            rw [ew'] at H7 HK7
            clear h6 hs6 k2 k3 k4 k5 hs56 eG6 hKI6 m1 m2 m3 m4 m5 h7 hKS7 hb1 hvk hlk eK7 hrun7 HK6 HKI5 HS6 HF ew'
            go_wp2_with (at_builtin; refine wpList_append_by rfl (.tmp 66) (.tmp 68) _ _ rfl _ _ _ rfl rfl w7 HR.out ?_)
            clear HR
            go_wp2_with fail
            refine CG.out.mono ?_; rintro e w8 ⟨rfl, rfl⟩
            clear CG
            go_wp2_with fail
            have hJ9 := HJ.out
            have hK9 := HK7.out
            clear d15
            go_loopg [82] K7 (fun gh v82 wr => ∃ q : Nat, q ≤ K7 ∧ K7 - q ≤ gh ∧ v82 = .int .i64 q ∧ Hid (KS W t w' (.slice A7 K7 c7) wr ∧ LR inU wr Ak w'))
            case atStart => exact ⟨0, Nat.zero_le _, by omega, rfl, H7⟩
            case round =>
              clear H7
              obtain ⟨q, hq, hgq, rfl, hQ⟩ := hrel
              by_cases hql : q < K7
              · obtain ⟨y, hy⟩ : ∃ y, w'[q]? = some y := ⟨_, List.getElem?_eq_getElem (by rw [HK7.out.2]; exact hql)⟩
                obtain ⟨gb, go, rfl, _, c8⟩ := hQ.out.2 q y hy
                obtain ⟨yb, yo, rfl, ybl, c9⟩ : ∃ b off, A7 = some ⟨b, off, none⟩ ∧ b < wr.heap.size ∧ wr.cell? ⟨b, off + q, none⟩ = some (inU y) := by
                  obtain ⟨_, _, _, TW', _, _, k5, _⟩ := hQ.out.1
                  obtain ⟨A', c', ev, _, _, hlr⟩ := k5.form
                  injection ev with e1 _ _
                  rw [← e1] at hlr
                  exact hlr q y hy
                unfold inU at c8 c9
                have l4 : (q : Int) < K7 := by omega
                have i4 : IntKind.i64.wrap ((q : Int) + 1) = ((q + 1 : Nat) : Int) := by rw [IntKind.wrap_i64]; omega
                have HG := Lib.hid (show q + 1 ≤ K7 ∧ q < K7 by omega)
                clear hy ybl hql hq hJ9 hK9
                go_upto_region 28 with fail
                go_quiet (fail)
                rename_i nq
                have HQ2 := Lib.hid (And.intro (hQ.out.1.drewN nq) (hQ.out.2.drewN nq))
                clear c8 c9 hQ
                go_wp2_with fail
                go_roundg (K7 - (q + 1))
                case rel => exact ⟨q + 1, HG.out.1, Nat.le_refl _, by first | rfl | simp, HQ2⟩
                case measure => have := HG.out; omega
              · obtain rfl : q = K7 := by omega
                have HKS := Lib.hid hQ.out.1
                clear hql hgq hq hQ hJ9 hK9
                go_wp2_with fail
                go_roundg (n - (j + 1))
                case rel => exact ⟨j + 1, w', HJ.out.1, Nat.le_refl _, by rw [HK7.out.2]; exact HK7.out.1, by first | rfl | simp, HKS⟩
                case measure => have := HJ.out; omega
    · obtain rfl : j = n := by omega
      obtain ⟨M, ns, G, TW, hT, hTW, hv, hK⟩ := hI.out
      have CL := Lib.hid (len_any hT)
      obtain ⟨A4, c4, rfl, _⟩ := hv.form
      have hlen := hK.len hT
      obtain ⟨L, eL⟩ : ∃ L, want.length = L := ⟨_, rfl⟩
      rw [hlen] at CL
      rw [eL] at CL hwj ⊢
      have i5 : IntKind.i64.wrap ((L : Int) + 1) = ((L + 1 : Nat) : Int) := by have := HN.out.1; rw [IntKind.wrap_i64]; omega
      obtain ⟨L1, eL1⟩ : ∃ L1, L + 1 = L1 := ⟨_, rfl⟩
      rw [eL1] at CL i5
      have HBE := Lib.hid hT.b
      clear hT hTW hv hK hlen eL hwj hlt hg hj hI
      go_wp2_with fail
      refine CL.out.mono ?_; rintro e w9 ⟨rfl, rfl⟩
      go_wp2_with fail
      go_ret
      exact ⟨by simp, HBE.out⟩
end Go.Proofs.Ytodionedjokdmaa
