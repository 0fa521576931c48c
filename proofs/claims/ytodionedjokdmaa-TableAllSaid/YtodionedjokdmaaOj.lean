/- Remove. -/
import Derived.Test.YtodionedjokdmaaOi
set_option linter.unusedVariables false
set_option linter.unusedSimpArgs false
namespace Go.Proofs.Ytodionedjokdmaa
open Go.RowKit
set_option linter.unusedVariables false
set_option linter.unusedSimpArgs false
/-- Its home has it no more. -/
def rmH (G : Nat → Option Ob) (n : Nat) (o : Ob) : Nat → Option Ob := match G o.hm with
  | some ho => updN G o.hm (some { ho with ks := ho.ks.filter (· != n) })
  | none => G
def rm (f : Nat) (G : Nat → Option Ob) (n : Nat) : (Nat → Option Ob) × List Nat := match G n with
  | none => (G, [])
  | some o => tk f (rmH G n o) n
def blkO (G : Nat → Option Ob) (x : Nat) : Option Nat := (G x).map Ob.b
section
variable {W w w' : World} {T T' : List Nat} {t : Nat} {M : Option Nat} {ns : List Nat} {G : Nat → Option Ob} {n c hm : Nat} {o ho : Ob}
theorem rmH_at {G : Nat → Option Ob} {n : Nat} {o : Ob} (x : Nat) : (rmH G n o x).map Ob.b = (G x).map Ob.b := by
  unfold rmH
  cases hh : G o.hm with
  | none => rfl
  | some ho =>
    simp only
    by_cases e : x = o.hm
    · subst e; rw [updN_same, hh]; rfl
    · rw [updN_other _ _ e]
theorem rmH_ks {G : Nat → Option Ob} {n : Nat} {o : Ob} {k : Nat} (hk : ∀ x o', G x = some o' → o'.ks.length ≤ k) : ∀ x o', rmH G n o x = some o' → o'.ks.length ≤ k := fun x o' h => by
  unfold rmH at h
  cases hh : G o.hm with
  | none => rw [hh] at h; exact hk x o' h
  | some ho =>
    rw [hh] at h
    simp only at h
    by_cases e : x = o.hm
    · subst e
      rw [updN_same] at h
      injection h with h
      rw [← h]
      exact Nat.le_trans (List.length_filter_le _ _) (hk _ _ hh)
    · rw [updN_other _ _ e] at h; exact hk x o' h
/-- What Remove leaves behind. -/
structure RmP (W : World) (T : List Nat) (t : Nat) (M : Option Nat) (ns : List Nat) (G : Nat → Option Ob) (n : Nat) (w : World) (v : Value) (w' : World) : Prop where
  ts : ∃ ns', TS W T t M ns' (rm ns.length G n).1 w'
  row : RW (fun b => w.heap.size ≤ b) 35 (encB (blkO G)) w' v (rm ns.length G n).2
  sm : Same T w w'
  ob : ∀ x o, G n = some o → ∀ o', rmH G n o x = some o' → OB (own_ W T) w' x o'
set_option maxHeartbeats 2000000 in
set_option maxRecDepth 100000 in
theorem remove_any (h : TS W T t M ns G w) (hn : U64 n) (hk : ∀ x o, G x = some o → o.ks.length ≤ 1000) (hns : ns.length ≤ 100000) :
    Calls Try.prog 24 #[.pointer (some ⟨t, 0, none⟩), .int .u64 (n : Int)] w fun e w' => ∃ v, e = .returned v ∧ RmP W T t M ns G n w v w' := by
  have CG := Lib.hid (get_any h hn)
  cases hG : G n with
  | none =>
    rw [hG, show pb none = .pointer none from rfl] at CG
    have HP := Lib.hid (show RmP W T t M ns G n w (.slice none 0 0) w from ⟨⟨ns, by unfold rm; rw [hG]; exact h⟩, by unfold rm; rw [hG]; exact RW.nil _ _, Same.refl _ _, fun x o hx => by rw [hG] at hx; cases hx⟩)
    clear h hn hk hns hG
    go_enter Try.func24, Try.ntmps24
    go_wp2_with fail
    refine CG.out.mono ?_; rintro e w1 ⟨rfl, rfl⟩
    go_wp2_with fail
    go_ret
    exact ⟨_, rfl, HP.out⟩
  | some o =>
    obtain ⟨m, rfl⟩ := h.some_ hG
    have hob := h.ob n o hG
    have hrm : rm ns.length G n = tk ns.length (rmH G n o) n := by unfold rm; rw [hG]
    have hTl : ∀ b ∈ T, b < w.heap.size := h.tl
    have hWs := h.b.size
    -- what take does, at any world in which the home has it no more
    have D : ∀ wx, TS W T t (some m) ns (rmH G n o) wx → Same T w wx → w.heap.size ≤ wx.heap.size → Calls Try.prog 36 #[.pointer (some ⟨t, 0, none⟩), .slice none 0 0, .pointer (some ⟨o.b, 0, none⟩), .int .u64 (n : Int)] wx fun e w' => ∃ v, e = .returned v ∧ RmP W T t (some m) ns G n w v w' := fun wx hx hs hz => by
      obtain ⟨o1, ho1, hb1⟩ : ∃ o1, rmH G n o n = some o1 ∧ o1.b = o.b := by
        have := rmH_at (G := G) (n := n) (o := o) n
        rw [hG] at this
        cases hr : rmH G n o n with
        | none => rw [hr] at this; cases this
        | some o1 => rw [hr] at this; injection this with this; exact ⟨o1, rfl, this⟩
      rw [← hb1]
      refine (take_any (B := blkO G) (N := w.heap.size) ns.length (rmH G n o) ns n o1 wx _ [] hx (Nat.le_refl _) ho1 (fun x o' hx' => ⟨?_, rmH_ks hk x o' hx'⟩) (RW.nil _ _) (by simp; omega) hWs hTl hz).mono ?_
      · unfold blkO; rw [← rmH_at (G := G) (n := n) (o := o) x, hx']; rfl
      · rintro e w' ⟨v, rfl, ⟨ns', q1, _⟩, q2, q3, q4, q5, q6⟩
        refine ⟨v, rfl, ⟨ns', by rw [hrm]; exact q1⟩, by rw [hrm]; simpa using q2, hs.trans q3, fun x o2 hx2 o' ho' => ?_⟩
        rw [hG] at hx2
        injection hx2 with hx2
        subst hx2
        exact (hx.ob x o' ho').kc q4
    have CH := Lib.hid (get_any h hob.2.1.2.1)
    obtain ⟨_, _, d2, _⟩ := hob.cells
    unfold inU at d2
    rw [hG, show pb (some o) = .pointer (some ⟨o.b, 0, none⟩) from rfl] at CG
    obtain ⟨b, eb⟩ : ∃ b, o.b = b := ⟨_, rfl⟩
    cases hH : G o.hm with
    | none =>
      have hr : rmH G n o = G := by unfold rmH; rw [hH]
      rw [hH, show pb none = .pointer none from rfl] at CH
      rw [hr, eb] at D
      have D := Lib.hid (D w h (Same.refl _ _) (Nat.le_refl _))
      rw [eb] at CG d2
      clear h hn hk hns hG hob hrm hTl hWs hH hr eb
      go_enter Try.func24, Try.ntmps24
      go_wp2_with fail
      refine CG.out.mono ?_; rintro e w1 ⟨rfl, rfl⟩
      go_wp2_with fail
      refine CH.out.mono ?_; rintro e w2 ⟨rfl, rfl⟩
      go_wp2_with fail
      refine D.out.mono ?_; rintro e w3 ⟨v, rfl, hP⟩
      have HP := Lib.hid hP
      obtain ⟨A, c, rfl, _⟩ := hP.row.form
      clear hP
      go_wp2_with fail
      go_ret
      exact ⟨_, rfl, HP.out⟩
    | some ho =>
      have hr : rmH G n o = updN G o.hm (some { ho with ks := ho.ks.filter (· != n) }) := by unfold rmH; rw [hH]
      rw [hH, show pb (some ho) = .pointer (some ⟨ho.b, 0, none⟩) from rfl] at CH
      have hoh := h.ob _ _ hH
      obtain ⟨-, -, -, -, kv, d3, hkv⟩ := hoh.cells
      obtain ⟨KA, kcp, rfl, hkc, _, hlr⟩ := hkv.form
      have f3 := hoh.frozen 15
      have hlt := hoh.lt
      have CW := Lib.hid (without_any (x := n) (l := ho.ks.length) (c := kcp) rfl (by have := hk _ _ hH; omega) hkc hlr)
      have HA := Lib.hid (And.intro h (And.intro hH (And.intro hoh (And.intro hlt hr))))
      have D := Lib.hid D
      rw [eb] at CG d2 D
      obtain ⟨b', eb'⟩ : ∃ b', ho.b = b' := ⟨_, rfl⟩
      rw [eb'] at CH d3 f3
      have HB := Lib.hid eb'
      obtain ⟨K, eK⟩ : ∃ K, ho.ks.length = K := ⟨_, rfl⟩
      rw [eK] at d3 CW
      clear h hn hk hns hG hob hrm hTl hWs hH hr eb eb' hoh hkv hkc hlr hlt eK f3
      go_enter Try.func24, Try.ntmps24
      go_wp2_with fail
      refine CG.out.mono ?_; rintro e w1 ⟨rfl, rfl⟩
      go_wp2_with fail
      refine CH.out.mono ?_; rintro e w2 ⟨rfl, rfl⟩
      go_wp2_with fail
      refine CW.out.mono ?_; rintro e w3 ⟨v3, rfl, hv3, hb3⟩
      obtain ⟨h, hH, hoh, hlt, hr⟩ := HA.out
      obtain ⟨A3, c3, rfl, _⟩ := hv3.form
      have h3 := h.below hb3
      obtain ⟨h4, hs4, _⟩ := h3.setk hH (ks := ho.ks.filter (· != n)) (fun k hk => hoh.2.1.2.2 k (List.mem_filter.1 hk).1) (hv3.mono fun b hb => own_new h hb)
      rw [← hr] at h4
      rw [HB.out] at h4 hs4 hlt
      have k1 : w3.cell? ⟨b', 15, none⟩ = some (.slice KA K kcp) := by rw [hb3.cell (p := ⟨b', 15, none⟩) hlt]; exact d3
      have k2 := (hoh.below hb3).frozen 15
      rw [HB.out] at k2
      obtain ⟨l3, el3⟩ : ∃ l3, (ho.ks.filter (· != n)).length = l3 := ⟨_, rfl⟩
      rw [el3] at h4 hs4 ⊢
      obtain ⟨w4, e4⟩ : ∃ w4, w3.setCell ⟨b', 15, none⟩ (.slice A3 l3 c3) = w4 := ⟨_, rfl⟩
      have hz4 : w2.heap.size ≤ w4.heap.size := by rw [← e4]; simpa using hb3.size
      rw [e4] at h4 hs4
      have D4 := Lib.hid (D.out w4 h4 ((h.same hb3).trans hs4) hz4)
      clear h hH hoh hlt hr hv3 hb3 h3 h4 hs4 el3 hz4 d3 D CH CG CW HA
      go_wp2_with fail
      clear k1 k2 e4
      refine D4.out.mono ?_; rintro e w5 ⟨v, rfl, hP⟩
      have HP := Lib.hid hP
      obtain ⟨A, c, rfl, _⟩ := hP.row.form
      clear hP
      go_wp2_with fail
      go_ret
      exact ⟨_, rfl, HP.out⟩
end
end Go.Proofs.Ytodionedjokdmaa
