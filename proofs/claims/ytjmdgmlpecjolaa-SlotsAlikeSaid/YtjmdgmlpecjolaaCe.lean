/- Right, and SlotsRight. -/
import Derived.Test.YtjmdgmlpecjolaaCd
set_option linter.unusedVariables false
set_option linter.unusedSimpArgs false
namespace Go.Proofs.Ytjmdgmlpecjolaa
open Go.RowKit
set_option linter.unusedVariables false
set_option linter.unusedSimpArgs false
variable {W w w' : World} {n cp k : Nat} {xs : List Sl} {A : Option Addr}
def okS (s : Sl) : Bool := decide (1 ≤ s.t) && decide (s.t ≤ 16)
/-- May it be a table? -/
def rgt (xs : List Sl) : Bool := (decide (1 ≤ xs.length) && decide (xs.length ≤ 8)) && xs.all okS
theorem all_take {xs : List Sl} {k : Nat} {x : Sl} (h : xs[k]? = some x) : (xs.take (k + 1)).all okS = ((xs.take k).all okS && okS x) := by
  rw [List.take_add_one, h, List.all_append]; simp
theorem not_all {xs : List Sl} {k : Nat} {x : Sl} (h : xs[k]? = some x) (hx : okS x = false) : xs.all okS = false := by
  rw [List.all_eq_false]
  exact ⟨x, List.mem_of_getElem? h, by simp [hx]⟩
set_option maxHeartbeats 1000000 in
theorem right_any (hc : n ≤ cp) (hcm : cp ≤ maxLen) (hl : xs.length = n) (hr : LV 2 encS w A xs) :
    Calls Try.prog 15 #[.slice A n cp] w fun e w' => e = .returned (.bool (rgt xs)) ∧ Below w.heap.size w w' := by
  have hcm' : cp ≤ 9223372036854775807 := hcm
  by_cases h0 : n < 1
  · have n0 : (n : Int) < 1 := by omega
    have HX := Lib.hid (show rgt xs = false by unfold rgt; rw [hl, decide_eq_false (by omega)]; rfl)
    clear hl hr
    go_enter Try.func15, Try.ntmps15
    go_wp2_with fail
    go_ret
    exact ⟨by rw [HX.out]; rfl, Below.refl _ _⟩
  have n0 : ¬ (n : Int) < 1 := by omega
  by_cases h8 : 8 < n
  · have n8 : (n : Int) > 8 := by omega
    have n8' : (8 : Int) < n := by omega
    have HX := Lib.hid (show rgt xs = false by unfold rgt; rw [hl, decide_eq_false (show ¬ n ≤ 8 by omega), Bool.and_false]; rfl)
    clear hl hr
    go_enter Try.func15, Try.ntmps15
    go_wp2_with fail
    go_ret
    exact ⟨by rw [HX.out]; rfl, Below.refl _ _⟩
  have n8 : ¬ (n : Int) > 8 := by omega
  have n8' : ¬ (8 : Int) < n := by omega
  have HX := Lib.hid (show rgt xs = xs.all okS by unfold rgt; rw [hl, decide_eq_true (by omega), decide_eq_true (by omega)]; rfl)
  have HR := Lib.hid (And.intro hl hr)
  clear hl hr
  rw [HX.out]
  clear HX
  go_enter Try.func15, Try.ntmps15
  go_wp2_with fail
  go_loopg [15] n (fun gh vi wr => ∃ k : Nat, k ≤ n ∧ gh = n - k ∧ vi = .int .i64 k ∧ Hid ((xs.take k).all okS = true ∧ Below w.heap.size w wr))
  case atStart => exact ⟨0, by omega, by omega, rfl, Lib.hid ⟨by simp, Below.refl _ _⟩⟩
  case round =>
    obtain ⟨k, hk, hg, rfl, hI⟩ := hrel
    by_cases hlt : k < n
    · obtain ⟨x, hx⟩ : ∃ x, xs[k]? = some x := ⟨_, List.getElem?_eq_getElem (by rw [HR.out.1]; exact hlt)⟩
      obtain ⟨b, off, rfl, hb, hcell⟩ := HR.out.2 k x hx
      have c0 : wr.cell? ⟨b, off + k * 2, none⟩ = some (.int .u64 x.c) := by rw [hI.out.2.cell (p := ⟨b, off + k * 2, none⟩) hb]; exact hcell 0 _ rfl
      have c1 : wr.cell? ⟨b, off + k * 2 + 1, none⟩ = some (.int .i64 x.t) := by rw [hI.out.2.cell (p := ⟨b, off + k * 2 + 1, none⟩) hb]; exact hcell 1 _ rfl
      have i1 : IntKind.i64.wrap ((k : Int) + 1) = (k : Int) + 1 := by rw [IntKind.wrap_i64]; omega
      have l1 : (k : Int) < n := by omega
      have HB := Lib.hid (below_up hI.out.2 (below_alloc1 wr (Obj.cells #[.int .u64 x.c, .int .i64 x.t] 32)))
      by_cases t0 : x.t < 1
      · have HF := Lib.hid (not_all hx (show okS x = false by unfold okS; rw [decide_eq_false (by omega)]; rfl))
        clear hx hb hcell hI
        go_wp2_with fail
        go_ret
        exact ⟨by rw [HF.out]; rfl, HB.out⟩
      · by_cases t1 : x.t > 16
        · have t2 : 16 < x.t := t1
          have HF := Lib.hid (not_all hx (show okS x = false by unfold okS; rw [decide_eq_false (show ¬ x.t ≤ 16 by omega), Bool.and_false]))
          clear hx hb hcell hI
          go_wp2_with fail
          go_ret
          exact ⟨by rw [HF.out]; rfl, HB.out⟩
        · have t2 : ¬ 16 < x.t := t1
          have HF := Lib.hid (show (xs.take (k + 1)).all okS = true by rw [all_take hx, hI.out.1]; unfold okS; rw [decide_eq_true (by omega), decide_eq_true (by omega)]; rfl)
          clear hx hb hcell hI
          go_wp2_with fail
          go_roundg (n - (k + 1))
          case rel => exact ⟨k + 1, by omega, rfl, by simp, Lib.hid ⟨HF.out, HB.out⟩⟩
          case measure => first | omega | (simp; omega)
    · obtain rfl : k = n := by omega
      have HF := Lib.hid (show xs.all okS = true by have := hI.out.1; rw [List.take_of_length_le (by rw [HR.out.1]; omega)] at this; exact this)
      have HB := Lib.hid hI.out.2
      clear hI hlt hk hg
      go_wp2_with fail
      go_ret
      exact ⟨by rw [HF.out]; rfl, HB.out⟩
set_option maxHeartbeats 2000000 in
theorem right_all (hc : n ≤ cp) (hcm : cp ≤ maxLen) (hl : xs.length = n) (hr : LV 2 encS w A xs) :
    Calls Try.prog 5 #[.slice A n cp] w fun e w' => e = .returned (.bool true) ∧ Below w.heap.size w w' := by
  have hcm' : cp ≤ 9223372036854775807 := hcm
  have B0 := Lib.hid (fit_any w)
  by_cases hbig : 1000 < n
  · have g1 : (n : Int) > 1000 := by omega
    have g2 : (1000 : Int) < n := by omega
    clear hl hr
    go_enter Try.func5, Try.ntmps5
    go_wp2_with fail
    refine B0.out.mono ?_; rintro e w1 ⟨rfl, hb⟩
    go_wp2_with fail
    go_ret
    exact ⟨rfl, hb⟩
  have g1 : ¬ (n : Int) > 1000 := by omega
  have g2 : ¬ (1000 : Int) < n := by omega
  have HR := Lib.hid (And.intro hl hr)
  clear hl hr
  by_cases h1 : 1 ≤ n
  · have m1 : (n : Int) ≥ 1 := by omega
    have m1' : (1 : Int) ≤ n := by omega
    by_cases h8 : n ≤ 8
    · have m8 : (n : Int) ≤ 8 := by omega
      have HG := Lib.hid (show rgt xs = (true && xs.all okS) by unfold rgt; rw [HR.out.1, decide_eq_true h1, decide_eq_true h8]; rfl)
      go_enter Try.func5, Try.ntmps5
      go_wp2_with fail
      refine B0.out.mono ?_; rintro e w1 ⟨rfl, hb⟩
      have B1 := Lib.hid hb
      clear hb B0
      go_wp2_with fail
      go_loopg [3, 21] n (fun gh vw vi wr => ∃ k : Nat, k ≤ n ∧ gh = n - k ∧ vi = .int .i64 k ∧ vw = .bool (true && (xs.take k).all okS) ∧ Hid (Below w.heap.size w wr))
      case atStart => exact ⟨0, by omega, by omega, rfl, by first | (simp; done) | (simp; omega), B1⟩
      case round =>
        clear B1
        obtain ⟨k, hk, hg, rfl, rfl, hI⟩ := hrel
        obtain ⟨bw, ebw⟩ : ∃ bw, (true && (xs.take k).all okS) = bw := ⟨_, rfl⟩
        have HW := Lib.hid ebw
        rw [ebw]
        clear ebw
        by_cases hlt : k < n
        · obtain ⟨x, hx⟩ : ∃ x, xs[k]? = some x := ⟨_, List.getElem?_eq_getElem (by rw [HR.out.1]; exact hlt)⟩
          obtain ⟨b, off, rfl, hb, hcell⟩ := HR.out.2 k x hx
          have c0 : wr.cell? ⟨b, off + k * 2, none⟩ = some (.int .u64 x.c) := by rw [hI.out.cell (p := ⟨b, off + k * 2, none⟩) hb]; exact hcell 0 _ rfl
          have c1 : wr.cell? ⟨b, off + k * 2 + 1, none⟩ = some (.int .i64 x.t) := by rw [hI.out.cell (p := ⟨b, off + k * 2 + 1, none⟩) hb]; exact hcell 1 _ rfl
          have i1 : IntKind.i64.wrap ((k : Int) + 1) = (k : Int) + 1 := by rw [IntKind.wrap_i64]; omega
          have l1 : (k : Int) < n := by omega
          have HB := Lib.hid (below_up hI.out (below_alloc1 wr (Obj.cells #[.int .u64 x.c, .int .i64 x.t] 32)))
          have HA := Lib.hid (show (true && (xs.take (k + 1)).all okS) = (bw && okS x) by rw [all_take hx, ← Bool.and_assoc, HW.out])
          clear hx hb hcell hI HW
          cases bw
          · go_wp2_with fail
            go_roundg (n - (k + 1))
            case rel => exact ⟨k + 1, by omega, rfl, by simp, by rw [HA.out]; rfl, HB⟩
            case measure => first | omega | (simp; omega)
          · by_cases t0 : x.t ≥ 1
            · have t0' : 1 ≤ x.t := t0
              by_cases t1 : x.t ≤ 16
              · have HO := Lib.hid (show okS x = true by unfold okS; rw [decide_eq_true t0', decide_eq_true t1]; rfl)
                go_wp2_with fail
                go_roundg (n - (k + 1))
                case rel => exact ⟨k + 1, by omega, rfl, by simp, by rw [HA.out, HO.out]; rfl, HB⟩
                case measure => first | omega | (simp; omega)
              · have HO := Lib.hid (show okS x = false by unfold okS; rw [decide_eq_false t1, Bool.and_false])
                go_wp2_with fail
                go_roundg (n - (k + 1))
                case rel => exact ⟨k + 1, by omega, rfl, by simp, by rw [HA.out, HO.out]; rfl, HB⟩
                case measure => first | omega | (simp; omega)
            · have t0' : ¬ 1 ≤ x.t := t0
              have HO := Lib.hid (show okS x = false by unfold okS; rw [decide_eq_false t0']; rfl)
              go_wp2_with fail
              go_roundg (n - (k + 1))
              case rel => exact ⟨k + 1, by omega, rfl, by simp, by rw [HA.out, HO.out]; rfl, HB⟩
              case measure => first | omega | (simp; omega)
        · obtain rfl : k = n := by omega
          have HE := Lib.hid (show rgt xs = bw by rw [HG.out, ← HW.out, List.take_of_length_le (by rw [HR.out.1]; omega)])
          have C := Lib.hid (right_any hc hcm HR.out.1 (HR.out.2.below hI.out))
          rw [HE.out] at C
          have HB := Lib.hid hI.out
          clear hI hlt hk hg
          cases bw
          · go_wp2_with fail
            refine C.out.mono ?_; rintro e w2 ⟨rfl, hb⟩
            have B2 := Lib.hid (below_up HB.out hb)
            clear hb C HB
            go_wp2_with fail
            go_ret
            exact ⟨rfl, B2.out⟩
          · go_wp2_with fail
            refine C.out.mono ?_; rintro e w2 ⟨rfl, hb⟩
            have B2 := Lib.hid (below_up HB.out hb)
            clear hb C HB
            go_wp2_with fail
            go_ret
            exact ⟨rfl, B2.out⟩
    · have m8 : ¬ (n : Int) ≤ 8 := by omega
      have HG := Lib.hid (show rgt xs = (false && xs.all okS) by unfold rgt; rw [HR.out.1, decide_eq_false h8, Bool.and_false])
      go_enter Try.func5, Try.ntmps5
      go_wp2_with fail
      refine B0.out.mono ?_; rintro e w1 ⟨rfl, hb⟩
      have B1 := Lib.hid hb
      clear hb B0
      go_wp2_with fail
      go_loopg [3, 21] n (fun gh vw vi wr => ∃ k : Nat, k ≤ n ∧ gh = n - k ∧ vi = .int .i64 k ∧ vw = .bool (false && (xs.take k).all okS) ∧ Hid (Below w.heap.size w wr))
      case atStart => exact ⟨0, by omega, by omega, rfl, by first | (simp; done) | (simp; omega), B1⟩
      case round =>
        clear B1
        obtain ⟨k, hk, hg, rfl, rfl, hI⟩ := hrel
        obtain ⟨bw, ebw⟩ : ∃ bw, (false && (xs.take k).all okS) = bw := ⟨_, rfl⟩
        have HW := Lib.hid ebw
        rw [ebw]
        clear ebw
        by_cases hlt : k < n
        · obtain ⟨x, hx⟩ : ∃ x, xs[k]? = some x := ⟨_, List.getElem?_eq_getElem (by rw [HR.out.1]; exact hlt)⟩
          obtain ⟨b, off, rfl, hb, hcell⟩ := HR.out.2 k x hx
          have c0 : wr.cell? ⟨b, off + k * 2, none⟩ = some (.int .u64 x.c) := by rw [hI.out.cell (p := ⟨b, off + k * 2, none⟩) hb]; exact hcell 0 _ rfl
          have c1 : wr.cell? ⟨b, off + k * 2 + 1, none⟩ = some (.int .i64 x.t) := by rw [hI.out.cell (p := ⟨b, off + k * 2 + 1, none⟩) hb]; exact hcell 1 _ rfl
          have i1 : IntKind.i64.wrap ((k : Int) + 1) = (k : Int) + 1 := by rw [IntKind.wrap_i64]; omega
          have l1 : (k : Int) < n := by omega
          have HB := Lib.hid (below_up hI.out (below_alloc1 wr (Obj.cells #[.int .u64 x.c, .int .i64 x.t] 32)))
          have HA := Lib.hid (show (false && (xs.take (k + 1)).all okS) = (bw && okS x) by rw [all_take hx, ← Bool.and_assoc, HW.out])
          clear hx hb hcell hI HW
          cases bw
          · go_wp2_with fail
            go_roundg (n - (k + 1))
            case rel => exact ⟨k + 1, by omega, rfl, by simp, by rw [HA.out]; rfl, HB⟩
            case measure => first | omega | (simp; omega)
          · by_cases t0 : x.t ≥ 1
            · have t0' : 1 ≤ x.t := t0
              by_cases t1 : x.t ≤ 16
              · have HO := Lib.hid (show okS x = true by unfold okS; rw [decide_eq_true t0', decide_eq_true t1]; rfl)
                go_wp2_with fail
                go_roundg (n - (k + 1))
                case rel => exact ⟨k + 1, by omega, rfl, by simp, by rw [HA.out, HO.out]; rfl, HB⟩
                case measure => first | omega | (simp; omega)
              · have HO := Lib.hid (show okS x = false by unfold okS; rw [decide_eq_false t1, Bool.and_false])
                go_wp2_with fail
                go_roundg (n - (k + 1))
                case rel => exact ⟨k + 1, by omega, rfl, by simp, by rw [HA.out, HO.out]; rfl, HB⟩
                case measure => first | omega | (simp; omega)
            · have t0' : ¬ 1 ≤ x.t := t0
              have HO := Lib.hid (show okS x = false by unfold okS; rw [decide_eq_false t0']; rfl)
              go_wp2_with fail
              go_roundg (n - (k + 1))
              case rel => exact ⟨k + 1, by omega, rfl, by simp, by rw [HA.out, HO.out]; rfl, HB⟩
              case measure => first | omega | (simp; omega)
        · obtain rfl : k = n := by omega
          have HE := Lib.hid (show rgt xs = bw by rw [HG.out, ← HW.out, List.take_of_length_le (by rw [HR.out.1]; omega)])
          have C := Lib.hid (right_any hc hcm HR.out.1 (HR.out.2.below hI.out))
          rw [HE.out] at C
          have HB := Lib.hid hI.out
          clear hI hlt hk hg
          cases bw
          · go_wp2_with fail
            refine C.out.mono ?_; rintro e w2 ⟨rfl, hb⟩
            have B2 := Lib.hid (below_up HB.out hb)
            clear hb C HB
            go_wp2_with fail
            go_ret
            exact ⟨rfl, B2.out⟩
          · go_wp2_with fail
            refine C.out.mono ?_; rintro e w2 ⟨rfl, hb⟩
            have B2 := Lib.hid (below_up HB.out hb)
            clear hb C HB
            go_wp2_with fail
            go_ret
            exact ⟨rfl, B2.out⟩
  · have m1 : ¬ (n : Int) ≥ 1 := by omega
    have m1' : ¬ (1 : Int) ≤ n := by omega
    have HG := Lib.hid (show rgt xs = (false && xs.all okS) by unfold rgt; rw [HR.out.1, decide_eq_false h1]; rfl)
    go_enter Try.func5, Try.ntmps5
    go_wp2_with fail
    refine B0.out.mono ?_; rintro e w1 ⟨rfl, hb⟩
    have B1 := Lib.hid hb
    clear hb B0
    go_wp2_with fail
    go_loopg [3, 21] n (fun gh vw vi wr => ∃ k : Nat, k ≤ n ∧ gh = n - k ∧ vi = .int .i64 k ∧ vw = .bool (false && (xs.take k).all okS) ∧ Hid (Below w.heap.size w wr))
    case atStart => exact ⟨0, by omega, by omega, rfl, by first | (simp; done) | (simp; omega), B1⟩
    case round =>
      clear B1
      obtain ⟨k, hk, hg, rfl, rfl, hI⟩ := hrel
      obtain ⟨bw, ebw⟩ : ∃ bw, (false && (xs.take k).all okS) = bw := ⟨_, rfl⟩
      have HW := Lib.hid ebw
      rw [ebw]
      clear ebw
      by_cases hlt : k < n
      · exfalso; omega
      · obtain rfl : k = n := by omega
        have HE := Lib.hid (show rgt xs = bw by rw [HG.out, ← HW.out, List.take_of_length_le (by rw [HR.out.1]; omega)])
        have C := Lib.hid (right_any hc hcm HR.out.1 (HR.out.2.below hI.out))
        rw [HE.out] at C
        have HB := Lib.hid hI.out
        clear hI hlt hk hg
        cases bw
        · go_wp2_with fail
          refine C.out.mono ?_; rintro e w2 ⟨rfl, hb⟩
          have B2 := Lib.hid (below_up HB.out hb)
          clear hb C HB
          go_wp2_with fail
          go_ret
          exact ⟨rfl, B2.out⟩
        · go_wp2_with fail
          refine C.out.mono ?_; rintro e w2 ⟨rfl, hb⟩
          have B2 := Lib.hid (below_up HB.out hb)
          clear hb C HB
          go_wp2_with fail
          go_ret
          exact ⟨rfl, B2.out⟩
end Go.Proofs.Ytjmdgmlpecjolaa
