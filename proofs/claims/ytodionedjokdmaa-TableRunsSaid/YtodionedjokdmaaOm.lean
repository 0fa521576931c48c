/- Threads. -/
import Derived.Test.YtodionedjokdmaaOl
set_option linter.unusedVariables false
set_option linter.unusedSimpArgs false
namespace Go.Proofs.Ytodionedjokdmaa
open Go.RowKit
set_option linter.unusedVariables false
set_option linter.unusedSimpArgs false
/-- Is it one of the container's threads on that core? -/
def thr (G : Nat → Option Ob) (cn : Nat) (on : Int) (k : Nat) : Bool := match kdd G cn k with
  | some o => runs o on
  | none => false
def thrN (G : Nat → Option Ob) (cn : Nat) (on : Int) : List Nat := match ctr G cn with
  | some h => h.ks.filter (thr G cn on)
  | none => []
section
variable {W w w' : World} {T : List Nat} {t : Nat} {M : Option Nat} {ns : List Nat} {G : Nat → Option Ob} {cn : Nat} {on : Int}
theorem filter_take_succ' {ks : List Nat} {i y : Nat} (p : Nat → Bool) (h : ks[i]? = some y) : (ks.take (i + 1)).filter p = (ks.take i).filter p ++ (if p y then [y] else []) := by
  rw [List.take_add_one, h, List.filter_append]
  congr 1
  cases hp : p y <;> simp [hp]
set_option maxHeartbeats 4000000 in
set_option maxRecDepth 100000 in
theorem threads_any (h : TS W T t M ns G w) (hn : U64 cn) (hk : ∀ x o, G x = some o → o.ks.length ≤ 1000) :
    Calls Try.prog 15 #[.pointer (some ⟨t, 0, none⟩), .int .u64 (cn : Int), .int .i64 on] w fun e w' => ∃ v, e = .returned v ∧ RW (fun b => w.heap.size ≤ b) 35 (encB (blkO G)) w' v (thrN G cn on) ∧ Below w.heap.size w w' := by
  have CC := Lib.hid (cont_any h hn)
  cases hc : ctr G cn with
  | none =>
    have HR := Lib.hid (show thrN G cn on = [] by unfold thrN; rw [hc])
    rw [hc, show pb none = .pointer none from rfl] at CC
    clear h hn hk hc
    go_enter Try.func15, Try.ntmps15
    go_wp2_with fail
    refine CC.out.mono ?_; rintro e w1 ⟨rfl, rfl⟩
    go_wp2_with fail
    go_ret
    exact ⟨_, rfl, by rw [HR.out]; exact RW.nil _ _, Below.refl _ _⟩
  | some ho =>
    have HR := Lib.hid (show thrN G cn on = ho.ks.filter (thr G cn on) by unfold thrN; rw [hc])
    rw [hc, show pb (some ho) = .pointer (some ⟨ho.b, 0, none⟩) from rfl] at CC
    have hoh := h.ob cn ho (ctr_some hc)
    obtain ⟨-, -, -, -, kv, d3, hkv⟩ := hoh.cells
    obtain ⟨KA, kcp, rfl, _, _, hlr⟩ := hkv.form
    obtain ⟨b', eb'⟩ : ∃ b', ho.b = b' := ⟨_, rfl⟩
    rw [eb'] at CC d3
    obtain ⟨K, eK⟩ : ∃ K, ho.ks.length = K := ⟨_, rfl⟩
    rw [eK] at d3
    have HA := Lib.hid (And.intro h (And.intro hlr (And.intro eK (And.intro (hk _ _ (ctr_some hc)) hoh.2.1.2.2))))
    obtain ⟨ks, eks⟩ : ∃ ks, ho.ks = ks := ⟨_, rfl⟩
    rw [eks] at HA HR
    have hK := hk _ _ (ctr_some hc)
    rw [eK] at hK
    clear h hn hk hc hoh hkv hlr eb' eK eks
    go_enter Try.func15, Try.ntmps15
    go_wp2_with fail
    refine CC.out.mono ?_; rintro e w1 ⟨rfl, rfl⟩
    clear CC
    go_wp2_with fail
    clear d3
    go_loopg [8, 22] K (fun gh v8 v22 wr => ∃ j : Nat, j ≤ K ∧ K - j ≤ gh ∧ v22 = .int .i64 j ∧ Hid (RW (fun b => w1.heap.size ≤ b) 35 (encB (blkO G)) wr v8 ((ks.take j).filter (thr G cn on)) ∧ Below w1.heap.size w1 wr))
    case atStart => exact ⟨0, Nat.zero_le _, by omega, rfl, Lib.hid ⟨RW.nil _ _, Below.refl _ _⟩⟩
    case round =>
      obtain ⟨j, hj, hg, rfl, hI⟩ := hrel
      by_cases hlt : j < K
      · obtain ⟨h, hlr, eK, hks, hku⟩ := HA.out
        obtain ⟨y, hy⟩ : ∃ y, ks[j]? = some y := ⟨_, List.getElem?_eq_getElem (by rw [eK]; exact hlt)⟩
        obtain ⟨kb, ko, rfl, _, c0⟩ := (hlr.below hI.out.2) j y hy
        unfold inU at c0
        have hT := h.below hI.out.2
        have C := Lib.hid (kid_any (hm := cn) hT (hku y (List.mem_of_getElem? hy)))
        have l1 : (j : Int) < K := by omega
        have i1 : IntKind.i64.wrap ((j : Int) + 1) = ((j + 1 : Nat) : Int) := by rw [IntKind.wrap_i64]; omega
        have hft := filter_take_succ' (thr G cn on) hy
        have HG := Lib.hid (show j + 1 ≤ K ∧ j < K by omega)
        cases hkd : kdd G cn y with
        | none =>
          have hth : thr G cn on y = false := by unfold thr; rw [hkd]
          rw [hth] at hft
          simp only [Bool.false_eq_true, if_false, List.append_nil] at hft
          rw [← hft] at hI
          rw [hkd, show pb none = .pointer none from rfl] at C
          clear h hlr eK hks hku hy hT hft hkd hth hlt hj
          go_wp2_with fail
          refine C.out.mono ?_; rintro e w4 ⟨rfl, rfl⟩
          clear c0
          go_wp2_with fail
          go_roundg (K - (j + 1))
          case rel => exact ⟨j + 1, HG.out.1, Nat.le_refl _, by first | rfl | simp, hI⟩
          case measure => have := HG.out; omega
        | some o =>
          have hth : thr G cn on y = runs o on := by unfold thr; rw [hkd]
          have hgy : G y = some o := (Option.filter_eq_some_iff.1 hkd).1
          have D := Lib.hid (runs_any (hT.ob y o hgy) on)
          rw [hkd, show pb (some o) = .pointer (some ⟨o.b, 0, none⟩) from rfl] at C
          rw [← hth] at D
          by_cases hru : thr G cn on y = true
          · rw [hru] at hft D
            simp only [if_true] at hft
            obtain ⟨hv, hb⟩ := hI.out
            have b1 := below_alloc1 wr (Obj.cells #[.pointer (some ⟨o.b, 0, none⟩)] 35)
            have hq := heap_alloc_new wr (Obj.cells #[.pointer (some ⟨o.b, 0, none⟩)] 35)
            obtain ⟨v', w', hrun, hv', S, ht, hS⟩ := append_p 75 (hv.below b1) (ys := [y]) (by have := List.length_filter_le (thr G cn on) (ks.take j); have := List.length_take_le j ks; simp; omega) (some ⟨wr.heap.size, 0, none⟩) 1 1 rfl (by simp) (lr_oneP hq (by unfold blkO; rw [hgy]; rfl))
            have HI' : Hid (RW (fun b => w1.heap.size ≤ b) 35 (encB (blkO G)) w' v' ((ks.take (j + 1)).filter (thr G cn on)) ∧ Below w1.heap.size w1 w') := Lib.hid ⟨by
              rw [hft]
              exact hv'.mono fun b hb' => by
                rcases hb' with h | h
                · exact h
                · have := b1.size; have := hb.size; omega, (hb.trans (b1.mono hb.size)).trans (ht.below (Nat.le_trans hb.size b1.size) fun b hb' => (hS b hb').1)⟩
            have HR2 := Lib.hid hrun
            clear h hlr eK hks hku hy hT hft hkd hth hlt hj hI hv hb b1 hq hrun hv' ht hS hru hgy
            go_wp2_with fail
            refine C.out.mono ?_; rintro e w4 ⟨rfl, rfl⟩
            clear c0
            go_wp2_with fail
            refine D.out.mono ?_; rintro e w4 ⟨rfl, rfl⟩
            go_wp2_with (at_builtin; refine wpList_append_by rfl (.tmp 37) (.tmp 39) _ _ rfl _ _ _ rfl rfl w' HR2.out ?_)
            clear HR2
            go_wp2_with fail
            go_roundg (K - (j + 1))
            case rel => exact ⟨j + 1, HG.out.1, Nat.le_refl _, by first | rfl | simp, HI'⟩
            case measure => have := HG.out; omega
          · have hru : thr G cn on y = false := by simpa using hru
            rw [hru] at hft D
            simp only [Bool.false_eq_true, if_false, List.append_nil] at hft
            rw [← hft] at hI
            clear h hlr eK hks hku hy hT hft hkd hth hlt hj hru hgy
            go_wp2_with fail
            refine C.out.mono ?_; rintro e w4 ⟨rfl, rfl⟩
            clear c0
            go_wp2_with fail
            refine D.out.mono ?_; rintro e w4 ⟨rfl, rfl⟩
            go_wp2_with fail
            go_roundg (K - (j + 1))
            case rel => exact ⟨j + 1, HG.out.1, Nat.le_refl _, by first | rfl | simp, hI⟩
            case measure => have := HG.out; omega
      · obtain rfl : j = K := by omega
        rw [List.take_of_length_le (by rw [HA.out.2.2.1]; exact Nat.le_refl _), ← HR.out] at hI
        obtain ⟨A8, c8, rfl, _⟩ := hI.out.1.form
        have HF := Lib.hid hI.out
        clear hlt hg hj hI
        go_wp2_with fail
        go_ret
        exact ⟨_, rfl, HF.out.1, HF.out.2⟩
end
end Go.Proofs.Ytodionedjokdmaa
