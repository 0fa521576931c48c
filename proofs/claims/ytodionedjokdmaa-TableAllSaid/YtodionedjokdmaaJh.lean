/- partition. -/
import Derived.Test.YtodionedjokdmaaJg
set_option linter.unusedVariables false
set_option linter.unusedSimpArgs false
namespace Go.Proofs.Ytodionedjokdmaa
open Go.RowKit
set_option linter.unusedVariables false
set_option linter.unusedSimpArgs false
/-- Below the pivot. -/
def pL (pv x : Int) : Bool := decide (x < pv)
/-- The pivot is at m: what is ahead of it isn't above it, what is behind isn't below. -/
structure PD (w : World) (g o n a b : Nat) (f : Nat → Int) (pv : Int) (m : Nat) (fr : Nat → Int) (wr : World) : Prop where
  t : Turn [g] w wr
  r : AR wr g o n fr
  l : Rl a b f fr
  v : fr m = pv
  lo : ∀ k, a ≤ k → k < m → fr k ≤ pv
  hi : ∀ k, m < k → k < b → pv ≤ fr k
  b1 : a ≤ m
  b2 : m < b
/-- How partition ends. -/
def PartEnd (w : World) (g o n a b : Nat) (f : Nat → Int) (pv : Int) (e : Ending) (w' : World) : Prop := ∃ (m : Nat) (t : Bool), e = .returned (.tuple #[.int .i64 m, .bool t]) ∧ ∃ fr, PD w g o n a b f pv m fr w'
theorem PT.finish {w wr : World} {g o n a b i j : Nat} {f fr : Nat → Int} {pv : Int} (h : PT w g o n a b f pv (pL pv) i j fr wr) (q : Nat) (hb : b ≤ n) (hji : j + 1 = i) :
    PD w g o n a b f pv j (swp fr j a) (((wr.drewN q).setCell ⟨g, o + j, none⟩ (.int .u64 (fr a))).setCell ⟨g, o + a, none⟩ (.int .u64 (fr j))) := by
  have h1 := h.b1
  have h3 := h.b3
  refine ⟨(h.t.drewN q).next (turn_swap _ _ _ _ _ _), (h.r.drewN q).swap (by omega) (by omega), h.l.trans (Rl.swap fr ⟨by omega, by omega⟩ ⟨by omega, by omega⟩), by rw [swp_i]; exact h.v, fun k k1 k2 => ?_, fun k k1 k2 => ?_, by omega, by omega⟩
  · by_cases e : k = a
    · rw [e, swp_j]
      have := h.lo j (by omega) (by omega)
      unfold pL at this
      have := of_decide_eq_true this
      omega
    · rw [swp_o fr (by omega) e]
      have := h.lo k (by omega) (by omega)
      unfold pL at this
      have := of_decide_eq_true this
      omega
  · rw [swp_o fr (by omega) (by omega)]
    have := h.hi k k1 k2
    unfold pL at this
    have := of_decide_eq_false this
    omega
set_option maxHeartbeats 8000000 in
set_option maxRecDepth 100000 in
theorem part_any {w : World} {g o n c : Nat} {f : Nat → Int} (a b d : Nat) (h : AR w g o n f) (hn : n ≤ 1000) (hb : b ≤ n) (hab : a < b) (hd : a < d ∧ d < b) :
    Calls Try.prog 64 #[.slice (some ⟨g, o, none⟩) n c, .int .i64 a, .int .i64 b, .int .i64 d] w fun e w' => PartEnd w g o n a b f (f d) e w' := by
  have HN := Lib.hid (And.intro hb hn)
  obtain ⟨pv, epv⟩ : ∃ pv, f d = pv := ⟨_, rfl⟩
  obtain ⟨i0, ei0⟩ : ∃ i0, a + 1 = i0 := ⟨_, rfl⟩
  obtain ⟨j0, ej0⟩ : ∃ j0, j0 + 1 = b := ⟨b - 1, by omega⟩
  have c0 := h.cell (k := a) (by omega)
  have c1 := h.cell (k := d) (by omega)
  have f0 := h.frozen (o + a)
  have f1 := h.frozen (o + d)
  have q1 : (a : Int) < n := by omega
  have q2 : (d : Int) < n := by omega
  have HS0 := Lib.hid (fun q => PT.start h q hb hab ⟨Nat.le_of_lt hd.1, hd.2⟩ (pL pv) ei0 ej0)
  rw [epv] at HS0 c1 ⊢
  obtain ⟨Y, eY⟩ : ∃ Y, f a = Y := ⟨_, rfl⟩
  rw [eY] at HS0 c0
  have i1 := w_add1 ei0 (by omega)
  have i2 := w_sub1 ej0 (by omega)
  have cS := set_other (g := g) (show o + a ≠ o + d by omega)
  clear h hn hb hab hd epv ei0 ej0 eY
  go_enter Try.func64, Try.ntmps64
  go_upto_region 1 with fail
  go_region
  obtain ⟨fr, efr⟩ : ∃ fr, swp f a d = fr := ⟨_, rfl⟩
  have hI := Lib.hid (show PT w g o n a b f pv (pL pv) i0 j0 fr (((w.setCell ⟨g, o + a, none⟩ (.int .u64 pv)).setCell ⟨g, o + d, none⟩ (.int .u64 Y)).drew) from by rw [← efr]; exact HS0.out 1)
  obtain ⟨W1, eW1⟩ : ∃ W1, ((w.setCell ⟨g, o + a, none⟩ (.int .u64 pv)).setCell ⟨g, o + d, none⟩ (.int .u64 Y)).drew = W1 := ⟨_, rfl⟩
  rw [eW1] at hI ⊢
  obtain ⟨i, ei⟩ : ∃ i, i0 = i := ⟨_, rfl⟩
  obtain ⟨j, ej⟩ : ∃ j, j0 = j := ⟨_, rfl⟩
  rw [ei] at hI i1
  rw [ej] at hI i2
  have hIb := Lib.hid (And.intro hI.out.b1 (And.intro hI.out.b2 hI.out.b3))
  clear c0 c1 f0 f1 cS HS0 eW1 efr ei ej
  go_upto_block 0 with fail
  go_cut [10] from 30 to 45 (fun v wx => ∃ i2 : Nat, v = .int .i64 i2 ∧ i ≤ i2 ∧ Hid (PT w g o n a b f pv (pL pv) i2 j fr wx ∧ (i2 ≤ j → pL pv (fr i2) = false)))
  case first =>
    go_wp2_with fail
    go_loopg [10] (n + 2) (fun gh v wx => ∃ i2 : Nat, n + 2 - i2 ≤ gh ∧ v = .int .i64 i2 ∧ i ≤ i2 ∧ Hid (PT w g o n a b f pv (pL pv) i2 j fr wx))
    case atStart => exact ⟨i, by omega, rfl, Nat.le_refl _, hI⟩
    case round =>
      clear hI
      obtain ⟨i2, hg2, rfl, hii, hK⟩ := hrel
      have hn := HN.out
      have k1 := hK.out.b1
      have k2 := hK.out.b2
      have k3 := hK.out.b3
      by_cases hij : i2 ≤ j
      · have q1 : (i2 : Int) ≤ j := by omega
        have q4 : (i2 : Int) < n := by omega
        have q5 : (a : Int) < n := by omega
        have u1 : i2 + 1 ≤ 100000 := by omega
        have c0 := hK.out.r.cell (k := i2) (by omega)
        have c1 := hK.out.r.cell (k := a) (by omega)
        have CX := fun W => less_any (fr i2) (fr a) W
        obtain ⟨X, eX⟩ : ∃ X, fr i2 = X := ⟨_, rfl⟩
        rw [eX] at c0
        rw [hK.out.v] at c1
        rw [eX, hK.out.v] at CX
        have HIJ := Lib.hid hij
        by_cases hxy : X < pv
        · simp only [decide_eq_true hxy] at CX
          have CX := Lib.hid CX
          have hp : pL pv (fr i2) = true := by rw [eX]; unfold pL; simp [hxy]
          have HG := Lib.hid (show i2 ≤ n from by omega)
          have HS := Lib.hid (fun q => PT.drewN (hK.out.left hij hp) q)
          have i1 := w_add1 rfl u1
          clear eX hxy hp hn k1 k2 k3 u1 hij
          go_upto_region 3 with fail
          go_quiet (first | (go_at_call 62; with_reducible exact Calls.quiet_of_same (CX.out _)))
          rename_i nq
          have HS2 := Lib.hid (HS.out nq)
          clear c0 c1 HS
          go_wp2_with fail
          go_roundg (n + 2 - (i2 + 1))
          case rel => exact ⟨i2 + 1, Nat.le_refl _, by first | rfl | simp, Nat.le_succ_of_le hii, HS2⟩
          case measure => have := HG.out; omega
        · simp only [decide_eq_false hxy] at CX
          have CX := Lib.hid CX
          have hp : pL pv (fr i2) = false := by rw [eX]; unfold pL; simp [hxy]
          have HS := Lib.hid (fun q => show PT w g o n a b f pv (pL pv) i2 j fr (World.drewN _ q) ∧ (i2 ≤ j → pL pv (fr i2) = false) from ⟨hK.out.drewN q, fun _ => hp⟩)
          clear eX hxy hp hn k1 k2 k3 u1 hij
          go_upto_region 3 with fail
          go_quiet (first | (go_at_call 62; with_reducible exact Calls.quiet_of_same (CX.out _)))
          rename_i nq
          have HS2 := Lib.hid (HS.out nq)
          clear c0 c1 HS
          go_wp2_with fail
          go_meet
          exact ⟨i2, rfl, hii, HS2⟩
      · have q1 : ¬ (i2 : Int) ≤ j := by omega
        have HS := Lib.hid (show PT w g o n a b f pv (pL pv) i2 j fr (World.drew _) ∧ (i2 ≤ j → pL pv (fr i2) = false) from ⟨hK.out.drew, fun h => absurd h hij⟩)
        clear hn k1 k2 k3 hij
        go_upto_region 3 with fail
        refine region_AU (Z := fun j => false) (S := fun _ => True) (by kernel_rfl) trivial (fun hHeld => ?_)
        refine AUS_take (by kernel_rfl) rfl (i := 0) (oi := _) (v := ?vwa0) rfl (by kernel_rfl) (by kernel_rfl) (by kernel_rfl) (fun _ _ _ h => h) (Or.inl ⟨by rfl, ?hza0⟩) hHeld ?rsta0
        case hza0 => (intro wS hSw; clear hSw; go_simp; try with_reducible rfl)
        simp only [Act.put, List.getElem_toArray, List.getElem_cons_zero, List.getElem_cons_succ, List.setIfInBounds_toArray, List.set_cons_zero, List.set_cons_succ]
        refine AUS_take (by kernel_rfl) rfl (i := 1) (oi := _) (v := ?vwa1) rfl (by kernel_rfl) (by kernel_rfl) (by kernel_rfl) (fun _ _ _ h => h) (Or.inl ⟨by rfl, ?hza1⟩) hHeld ?rsta1
        case hza1 => (intro wS hSw; clear hSw; go_simp; try with_reducible rfl)
        simp only [Act.put, List.getElem_toArray, List.getElem_cons_zero, List.getElem_cons_succ, List.setIfInBounds_toArray, List.set_cons_zero, List.set_cons_succ]
        refine AUS_take (by kernel_rfl) rfl (i := 2) (oi := _) (v := ?vwa2) rfl (by kernel_rfl) (by kernel_rfl) (by kernel_rfl) (fun _ _ _ h => h) (Or.inl ⟨by rfl, ?hza2⟩) hHeld ?rsta2
        case hza2 => (intro wS hSw; clear hSw; go_simp; try with_reducible rfl)
        simp only [Act.put, List.getElem_toArray, List.getElem_cons_zero, List.getElem_cons_succ, List.setIfInBounds_toArray, List.set_cons_zero, List.set_cons_succ]
        refine AUS_take (by kernel_rfl) rfl (i := 3) (oi := _) (v := ?vwa3) rfl (by kernel_rfl) (by kernel_rfl) (by kernel_rfl) (fun _ _ _ h => h) (Or.inl ⟨by rfl, ?hza3⟩) hHeld ?rsta3
        case hza3 => (intro wS hSw; clear hSw; go_simp; try with_reducible rfl)
        simp only [Act.put, List.getElem_toArray, List.getElem_cons_zero, List.getElem_cons_succ, List.setIfInBounds_toArray, List.set_cons_zero, List.set_cons_succ]
        refine AUS_take (by kernel_rfl) rfl (i := 4) (oi := _) (v := undef) rfl (by kernel_rfl) (by kernel_rfl) (by kernel_rfl) (fun _ _ _ h => h) (Or.inr ⟨by rfl, rfl⟩) hHeld ?rsta4
        try simp only [Act.put, List.getElem_toArray, List.getElem_cons_zero, List.getElem_cons_succ, List.setIfInBounds_toArray, List.set_cons_zero, List.set_cons_succ]
        refine AUS_take (by kernel_rfl) rfl (i := 5) (oi := _) (v := undef) rfl (by kernel_rfl) (by kernel_rfl) (by kernel_rfl) (fun _ _ _ h => h) (Or.inr ⟨by rfl, rfl⟩) hHeld ?rsta5
        try simp only [Act.put, List.getElem_toArray, List.getElem_cons_zero, List.getElem_cons_succ, List.setIfInBounds_toArray, List.set_cons_zero, List.set_cons_succ]
        refine AUS_take (by kernel_rfl) rfl (i := 6) (oi := _) (v := undef) rfl (by kernel_rfl) (by kernel_rfl) (by kernel_rfl) (fun _ _ _ h => h) (Or.inr ⟨by rfl, rfl⟩) hHeld ?rsta6
        try simp only [Act.put, List.getElem_toArray, List.getElem_cons_zero, List.getElem_cons_succ, List.setIfInBounds_toArray, List.set_cons_zero, List.set_cons_succ]
        refine AUS_take (by kernel_rfl) rfl (i := 7) (oi := _) (v := undef) rfl (by kernel_rfl) (by kernel_rfl) (by kernel_rfl) (fun _ _ _ h => h) (Or.inr ⟨by rfl, rfl⟩) hHeld ?rsta7
        try simp only [Act.put, List.getElem_toArray, List.getElem_cons_zero, List.getElem_cons_succ, List.setIfInBounds_toArray, List.set_cons_zero, List.set_cons_succ]
        refine AUS_take (by kernel_rfl) rfl (i := 8) (oi := _) (v := undef) rfl (by kernel_rfl) (by kernel_rfl) (by kernel_rfl) (fun _ _ _ h => h) (Or.inr ⟨by rfl, rfl⟩) hHeld ?rsta8
        try simp only [Act.put, List.getElem_toArray, List.getElem_cons_zero, List.getElem_cons_succ, List.setIfInBounds_toArray, List.set_cons_zero, List.set_cons_succ]
        refine AUS_take (by kernel_rfl) rfl (i := 9) (oi := _) (v := undef) rfl (by kernel_rfl) (by kernel_rfl) (by kernel_rfl) (fun _ _ _ h => h) (Or.inr ⟨by rfl, rfl⟩) hHeld ?rsta9
        try simp only [Act.put, List.getElem_toArray, List.getElem_cons_zero, List.getElem_cons_succ, List.setIfInBounds_toArray, List.set_cons_zero, List.set_cons_succ]
        refine AUS_take (by kernel_rfl) rfl (i := 10) (oi := _) (v := undef) rfl (by kernel_rfl) (by kernel_rfl) (by kernel_rfl) (fun _ _ _ h => h) (Or.inr ⟨by rfl, rfl⟩) hHeld ?rsta10
        try simp only [Act.put, List.getElem_toArray, List.getElem_cons_zero, List.getElem_cons_succ, List.setIfInBounds_toArray, List.set_cons_zero, List.set_cons_succ]
        refine AUS_take (by kernel_rfl) rfl (i := 11) (oi := _) (v := undef) rfl (by kernel_rfl) (by kernel_rfl) (by kernel_rfl) (fun _ _ _ h => h) (Or.inr ⟨by rfl, rfl⟩) hHeld ?rsta11
        try simp only [Act.put, List.getElem_toArray, List.getElem_cons_zero, List.getElem_cons_succ, List.setIfInBounds_toArray, List.set_cons_zero, List.set_cons_succ]
        refine AUS_take (by kernel_rfl) rfl (i := 12) (oi := _) (v := undef) rfl (by kernel_rfl) (by kernel_rfl) (by kernel_rfl) (fun _ _ _ h => h) (Or.inr ⟨by rfl, rfl⟩) hHeld ?rsta12
        try simp only [Act.put, List.getElem_toArray, List.getElem_cons_zero, List.getElem_cons_succ, List.setIfInBounds_toArray, List.set_cons_zero, List.set_cons_succ]
        refine AUS_take (by kernel_rfl) rfl (i := 13) (oi := _) (v := ?vwa13) rfl (by kernel_rfl) (by kernel_rfl) (by kernel_rfl) (fun _ _ _ h => h) (Or.inl ⟨by rfl, ?hza13⟩) hHeld ?rsta13
        case hza13 => (intro wS hSw; clear hSw; go_simp; try with_reducible rfl)
        simp only [Act.put, List.getElem_toArray, List.getElem_cons_zero, List.getElem_cons_succ, List.setIfInBounds_toArray, List.set_cons_zero, List.set_cons_succ]
        refine AU_done (by kernel_rfl) ?_ _
        simp only [OnlyN]
        go_wp2_with fail
        go_meet
        exact ⟨i2, rfl, hii, HS⟩
  case rest =>
    clear hI
    obtain ⟨i2, rfl, hii, hI2⟩ := hcut
    have hii := Lib.hid hii
    go_wp2_with fail
    go_loopg [11] j (fun gh v wx => ∃ j2 : Nat, j2 ≤ gh ∧ v = .int .i64 j2 ∧ j2 ≤ j ∧ Hid (PT w g o n a b f pv (pL pv) i2 j2 fr wx ∧ (i2 ≤ j2 → pL pv (fr i2) = false)))
    case atStart => exact ⟨j, Nat.le_refl _, rfl, Nat.le_refl _, hI2⟩
    case round =>
      clear hI2
      obtain ⟨j2, hg2, rfl, hjj, hK⟩ := hrel
      have hn := HN.out
      have k1 := hK.out.1.b1
      have k2 := hK.out.1.b2
      have k3 := hK.out.1.b3
      by_cases hij : i2 ≤ j2
      · have q1 : (i2 : Int) ≤ j2 := by omega
        have q1n : ¬ (i2 : Int) > j2 := by omega
        have q1m : ¬ (j2 : Int) < i2 := by omega
        have q4 : (j2 : Int) < n := by omega
        have q5 : (a : Int) < n := by omega
        have q6 : (i2 : Int) < n := by omega
        obtain ⟨j3, ej3⟩ : ∃ j3, j2 = j3 + 1 := ⟨j2 - 1, by omega⟩
        have u1 : j2 ≤ 100000 := by omega
        have u2 : i2 + 1 ≤ 100000 := by omega
        have c0 := hK.out.1.r.cell (k := j2) (by omega)
        have c1 := hK.out.1.r.cell (k := a) (by omega)
        have c2 := hK.out.1.r.cell (k := i2) (by omega)
        have f0 := hK.out.1.r.frozen (o + j2)
        have f1 := hK.out.1.r.frozen (o + i2)
        have CX := fun W => less_any (fr j2) (fr a) W
        obtain ⟨X, eX⟩ : ∃ X, fr j2 = X := ⟨_, rfl⟩
        obtain ⟨Y, eY⟩ : ∃ Y, fr i2 = Y := ⟨_, rfl⟩
        rw [eX] at c0
        rw [eY] at c2
        rw [hK.out.1.v] at c1
        rw [eX, hK.out.1.v] at CX
        by_cases hxy : X < pv
        · simp only [decide_eq_true hxy] at CX
          have CX := Lib.hid CX
          have hp : pL pv (fr j2) = true := by rw [eX]; unfold pL; simp [hxy]
          have hpi := hK.out.2 hij
          have hlt : i2 < j2 := by
            rcases Nat.lt_or_ge i2 j2 with h | h
            · exact h
            · have : i2 = j2 := by omega
              subst this
              rw [hp] at hpi; cases hpi
          have HS := Lib.hid (fun q => (hK.out.1.drewN q).swap hn.1 ej3 hlt hpi hp)
          rw [eX, eY] at HS
          have HG := Lib.hid (show j3 + 2 - (i2 + 1) ≤ n + 2 from by have := hIb.out; have := hii.out; omega)
          have i1 := w_sub1 ej3.symm u1
          have i4 := w_add1 rfl u2
          have cS := set_other (g := g) (show o + i2 ≠ o + j2 by omega)
          clear eX eY hxy hp hn k1 k2 k3 u1 u2 hij ej3 hpi hlt
          go_upto_region 5 with fail
          go_quiet (first | (go_at_call 62; with_reducible exact Calls.quiet_of_same (CX.out _)))
          rename_i nq
          go_upto_region 10 with fail
          go_region
          have HS2 := Lib.hid (HS.out (nq + 1))
          clear c0 c1 c2 f0 f1 cS HS
          go_wp2_with fail
          clear i1 i4
          have HGG := Lib.hid HG.out
          go_loopg [10, 11] (n + 2) (fun gh vi vj wr => ∃ i j : Nat, j + 2 - i ≤ gh ∧ vi = .int .i64 i ∧ vj = .int .i64 j ∧ ∃ fr, Hid (PT w g o n a b f pv (pL pv) i j fr wr))
          case atStart => exact ⟨i2 + 1, j3, HGG.out, by first | rfl | simp, rfl, _, HS2⟩
          case round =>
            clear HS2 HGG HG hIb hii
            obtain ⟨i, j, hgo, rfl, rfl, fr, hI⟩ := hrel
            have hIb := Lib.hid (And.intro hI.out.b1 (And.intro hI.out.b2 hI.out.b3))
            have hgoH := Lib.hid hgo
            clear hgo
            go_upto_block 6 with fail
            go_cut [10] from 99 to 114 (fun v wx => ∃ i2 : Nat, v = .int .i64 i2 ∧ i ≤ i2 ∧ Hid (PT w g o n a b f pv (pL pv) i2 j fr wx ∧ (i2 ≤ j → pL pv (fr i2) = false)))
            case first =>
              go_wp2_with fail
              go_loopg [10] (n + 2) (fun gh v wx => ∃ i2 : Nat, n + 2 - i2 ≤ gh ∧ v = .int .i64 i2 ∧ i ≤ i2 ∧ Hid (PT w g o n a b f pv (pL pv) i2 j fr wx))
              case atStart => exact ⟨i, by omega, rfl, Nat.le_refl _, hI⟩
              case round =>
                clear hI
                obtain ⟨i2, hg2, rfl, hii, hK⟩ := hrel
                have hn := HN.out
                have k1 := hK.out.b1
                have k2 := hK.out.b2
                have k3 := hK.out.b3
                by_cases hij : i2 ≤ j
                · have q1 : (i2 : Int) ≤ j := by omega
                  have q4 : (i2 : Int) < n := by omega
                  have q5 : (a : Int) < n := by omega
                  have u1 : i2 + 1 ≤ 100000 := by omega
                  have c0 := hK.out.r.cell (k := i2) (by omega)
                  have c1 := hK.out.r.cell (k := a) (by omega)
                  have CX := fun W => less_any (fr i2) (fr a) W
                  obtain ⟨X, eX⟩ : ∃ X, fr i2 = X := ⟨_, rfl⟩
                  rw [eX] at c0
                  rw [hK.out.v] at c1
                  rw [eX, hK.out.v] at CX
                  have HIJ := Lib.hid hij
                  by_cases hxy : X < pv
                  · simp only [decide_eq_true hxy] at CX
                    have CX := Lib.hid CX
                    have hp : pL pv (fr i2) = true := by rw [eX]; unfold pL; simp [hxy]
                    have HG := Lib.hid (show i2 ≤ n from by omega)
                    have HS := Lib.hid (fun q => PT.drewN (hK.out.left hij hp) q)
                    have i1 := w_add1 rfl u1
                    clear eX hxy hp hn k1 k2 k3 u1 hij
                    go_upto_region 13 with fail
                    go_quiet (first | (go_at_call 62; with_reducible exact Calls.quiet_of_same (CX.out _)))
                    rename_i nq
                    have HS2 := Lib.hid (HS.out nq)
                    clear c0 c1 HS
                    go_wp2_with fail
                    go_roundg (n + 2 - (i2 + 1))
                    case rel => exact ⟨i2 + 1, Nat.le_refl _, by first | rfl | simp, Nat.le_succ_of_le hii, HS2⟩
                    case measure => have := HG.out; omega
                  · simp only [decide_eq_false hxy] at CX
                    have CX := Lib.hid CX
                    have hp : pL pv (fr i2) = false := by rw [eX]; unfold pL; simp [hxy]
                    have HS := Lib.hid (fun q => show PT w g o n a b f pv (pL pv) i2 j fr (World.drewN _ q) ∧ (i2 ≤ j → pL pv (fr i2) = false) from ⟨hK.out.drewN q, fun _ => hp⟩)
                    clear eX hxy hp hn k1 k2 k3 u1 hij
                    go_upto_region 13 with fail
                    go_quiet (first | (go_at_call 62; with_reducible exact Calls.quiet_of_same (CX.out _)))
                    rename_i nq
                    have HS2 := Lib.hid (HS.out nq)
                    clear c0 c1 HS
                    go_wp2_with fail
                    go_meet
                    exact ⟨i2, rfl, hii, HS2⟩
                · have q1 : ¬ (i2 : Int) ≤ j := by omega
                  have HS := Lib.hid (show PT w g o n a b f pv (pL pv) i2 j fr (World.drew _) ∧ (i2 ≤ j → pL pv (fr i2) = false) from ⟨hK.out.drew, fun h => absurd h hij⟩)
                  clear hn k1 k2 k3 hij
                  go_upto_region 13 with fail
                  refine region_AU (Z := fun j => false) (S := fun _ => True) (by kernel_rfl) trivial (fun hHeld => ?_)
                  refine AUS_take (by kernel_rfl) rfl (i := 0) (oi := _) (v := ?vwc0) rfl (by kernel_rfl) (by kernel_rfl) (by kernel_rfl) (fun _ _ _ h => h) (Or.inl ⟨by rfl, ?hzc0⟩) hHeld ?rstc0
                  case hzc0 => (intro wS hSw; clear hSw; go_simp; try with_reducible rfl)
                  simp only [Act.put, List.getElem_toArray, List.getElem_cons_zero, List.getElem_cons_succ, List.setIfInBounds_toArray, List.set_cons_zero, List.set_cons_succ]
                  refine AUS_take (by kernel_rfl) rfl (i := 1) (oi := _) (v := ?vwc1) rfl (by kernel_rfl) (by kernel_rfl) (by kernel_rfl) (fun _ _ _ h => h) (Or.inl ⟨by rfl, ?hzc1⟩) hHeld ?rstc1
                  case hzc1 => (intro wS hSw; clear hSw; go_simp; try with_reducible rfl)
                  simp only [Act.put, List.getElem_toArray, List.getElem_cons_zero, List.getElem_cons_succ, List.setIfInBounds_toArray, List.set_cons_zero, List.set_cons_succ]
                  refine AUS_take (by kernel_rfl) rfl (i := 2) (oi := _) (v := ?vwc2) rfl (by kernel_rfl) (by kernel_rfl) (by kernel_rfl) (fun _ _ _ h => h) (Or.inl ⟨by rfl, ?hzc2⟩) hHeld ?rstc2
                  case hzc2 => (intro wS hSw; clear hSw; go_simp; try with_reducible rfl)
                  simp only [Act.put, List.getElem_toArray, List.getElem_cons_zero, List.getElem_cons_succ, List.setIfInBounds_toArray, List.set_cons_zero, List.set_cons_succ]
                  refine AUS_take (by kernel_rfl) rfl (i := 3) (oi := _) (v := ?vwc3) rfl (by kernel_rfl) (by kernel_rfl) (by kernel_rfl) (fun _ _ _ h => h) (Or.inl ⟨by rfl, ?hzc3⟩) hHeld ?rstc3
                  case hzc3 => (intro wS hSw; clear hSw; go_simp; try with_reducible rfl)
                  simp only [Act.put, List.getElem_toArray, List.getElem_cons_zero, List.getElem_cons_succ, List.setIfInBounds_toArray, List.set_cons_zero, List.set_cons_succ]
                  refine AUS_take (by kernel_rfl) rfl (i := 4) (oi := _) (v := undef) rfl (by kernel_rfl) (by kernel_rfl) (by kernel_rfl) (fun _ _ _ h => h) (Or.inr ⟨by rfl, rfl⟩) hHeld ?rstc4
                  try simp only [Act.put, List.getElem_toArray, List.getElem_cons_zero, List.getElem_cons_succ, List.setIfInBounds_toArray, List.set_cons_zero, List.set_cons_succ]
                  refine AUS_take (by kernel_rfl) rfl (i := 5) (oi := _) (v := undef) rfl (by kernel_rfl) (by kernel_rfl) (by kernel_rfl) (fun _ _ _ h => h) (Or.inr ⟨by rfl, rfl⟩) hHeld ?rstc5
                  try simp only [Act.put, List.getElem_toArray, List.getElem_cons_zero, List.getElem_cons_succ, List.setIfInBounds_toArray, List.set_cons_zero, List.set_cons_succ]
                  refine AUS_take (by kernel_rfl) rfl (i := 6) (oi := _) (v := undef) rfl (by kernel_rfl) (by kernel_rfl) (by kernel_rfl) (fun _ _ _ h => h) (Or.inr ⟨by rfl, rfl⟩) hHeld ?rstc6
                  try simp only [Act.put, List.getElem_toArray, List.getElem_cons_zero, List.getElem_cons_succ, List.setIfInBounds_toArray, List.set_cons_zero, List.set_cons_succ]
                  refine AUS_take (by kernel_rfl) rfl (i := 7) (oi := _) (v := undef) rfl (by kernel_rfl) (by kernel_rfl) (by kernel_rfl) (fun _ _ _ h => h) (Or.inr ⟨by rfl, rfl⟩) hHeld ?rstc7
                  try simp only [Act.put, List.getElem_toArray, List.getElem_cons_zero, List.getElem_cons_succ, List.setIfInBounds_toArray, List.set_cons_zero, List.set_cons_succ]
                  refine AUS_take (by kernel_rfl) rfl (i := 8) (oi := _) (v := undef) rfl (by kernel_rfl) (by kernel_rfl) (by kernel_rfl) (fun _ _ _ h => h) (Or.inr ⟨by rfl, rfl⟩) hHeld ?rstc8
                  try simp only [Act.put, List.getElem_toArray, List.getElem_cons_zero, List.getElem_cons_succ, List.setIfInBounds_toArray, List.set_cons_zero, List.set_cons_succ]
                  refine AUS_take (by kernel_rfl) rfl (i := 9) (oi := _) (v := undef) rfl (by kernel_rfl) (by kernel_rfl) (by kernel_rfl) (fun _ _ _ h => h) (Or.inr ⟨by rfl, rfl⟩) hHeld ?rstc9
                  try simp only [Act.put, List.getElem_toArray, List.getElem_cons_zero, List.getElem_cons_succ, List.setIfInBounds_toArray, List.set_cons_zero, List.set_cons_succ]
                  refine AUS_take (by kernel_rfl) rfl (i := 10) (oi := _) (v := undef) rfl (by kernel_rfl) (by kernel_rfl) (by kernel_rfl) (fun _ _ _ h => h) (Or.inr ⟨by rfl, rfl⟩) hHeld ?rstc10
                  try simp only [Act.put, List.getElem_toArray, List.getElem_cons_zero, List.getElem_cons_succ, List.setIfInBounds_toArray, List.set_cons_zero, List.set_cons_succ]
                  refine AUS_take (by kernel_rfl) rfl (i := 11) (oi := _) (v := undef) rfl (by kernel_rfl) (by kernel_rfl) (by kernel_rfl) (fun _ _ _ h => h) (Or.inr ⟨by rfl, rfl⟩) hHeld ?rstc11
                  try simp only [Act.put, List.getElem_toArray, List.getElem_cons_zero, List.getElem_cons_succ, List.setIfInBounds_toArray, List.set_cons_zero, List.set_cons_succ]
                  refine AUS_take (by kernel_rfl) rfl (i := 12) (oi := _) (v := undef) rfl (by kernel_rfl) (by kernel_rfl) (by kernel_rfl) (fun _ _ _ h => h) (Or.inr ⟨by rfl, rfl⟩) hHeld ?rstc12
                  try simp only [Act.put, List.getElem_toArray, List.getElem_cons_zero, List.getElem_cons_succ, List.setIfInBounds_toArray, List.set_cons_zero, List.set_cons_succ]
                  refine AUS_take (by kernel_rfl) rfl (i := 13) (oi := _) (v := ?vwc13) rfl (by kernel_rfl) (by kernel_rfl) (by kernel_rfl) (fun _ _ _ h => h) (Or.inl ⟨by rfl, ?hzc13⟩) hHeld ?rstc13
                  case hzc13 => (intro wS hSw; clear hSw; go_simp; try with_reducible rfl)
                  simp only [Act.put, List.getElem_toArray, List.getElem_cons_zero, List.getElem_cons_succ, List.setIfInBounds_toArray, List.set_cons_zero, List.set_cons_succ]
                  refine AU_done (by kernel_rfl) ?_ _
                  simp only [OnlyN]
                  go_wp2_with fail
                  go_meet
                  exact ⟨i2, rfl, hii, HS⟩
            case rest =>
              clear hI
              obtain ⟨i2, rfl, hii, hI2⟩ := hcut
              have hii := Lib.hid hii
              go_wp2_with fail
              go_loopg [11] j (fun gh v wx => ∃ j2 : Nat, j2 ≤ gh ∧ v = .int .i64 j2 ∧ j2 ≤ j ∧ Hid (PT w g o n a b f pv (pL pv) i2 j2 fr wx ∧ (i2 ≤ j2 → pL pv (fr i2) = false)))
              case atStart => exact ⟨j, Nat.le_refl _, rfl, Nat.le_refl _, hI2⟩
              case round =>
                clear hI2
                obtain ⟨j2, hg2, rfl, hjj, hK⟩ := hrel
                have hn := HN.out
                have k1 := hK.out.1.b1
                have k2 := hK.out.1.b2
                have k3 := hK.out.1.b3
                by_cases hij : i2 ≤ j2
                · have q1 : (i2 : Int) ≤ j2 := by omega
                  have q1n : ¬ (i2 : Int) > j2 := by omega
                  have q1m : ¬ (j2 : Int) < i2 := by omega
                  have q4 : (j2 : Int) < n := by omega
                  have q5 : (a : Int) < n := by omega
                  have q6 : (i2 : Int) < n := by omega
                  obtain ⟨j3, ej3⟩ : ∃ j3, j2 = j3 + 1 := ⟨j2 - 1, by omega⟩
                  have u1 : j2 ≤ 100000 := by omega
                  have u2 : i2 + 1 ≤ 100000 := by omega
                  have c0 := hK.out.1.r.cell (k := j2) (by omega)
                  have c1 := hK.out.1.r.cell (k := a) (by omega)
                  have c2 := hK.out.1.r.cell (k := i2) (by omega)
                  have f0 := hK.out.1.r.frozen (o + j2)
                  have f1 := hK.out.1.r.frozen (o + i2)
                  have CX := fun W => less_any (fr j2) (fr a) W
                  obtain ⟨X, eX⟩ : ∃ X, fr j2 = X := ⟨_, rfl⟩
                  obtain ⟨Y, eY⟩ : ∃ Y, fr i2 = Y := ⟨_, rfl⟩
                  rw [eX] at c0
                  rw [eY] at c2
                  rw [hK.out.1.v] at c1
                  rw [eX, hK.out.1.v] at CX
                  by_cases hxy : X < pv
                  · simp only [decide_eq_true hxy] at CX
                    have CX := Lib.hid CX
                    have hp : pL pv (fr j2) = true := by rw [eX]; unfold pL; simp [hxy]
                    have hpi := hK.out.2 hij
                    have hlt : i2 < j2 := by
                      rcases Nat.lt_or_ge i2 j2 with h | h
                      · exact h
                      · have : i2 = j2 := by omega
                        subst this
                        rw [hp] at hpi; cases hpi
                    have HS := Lib.hid (fun q => (hK.out.1.drewN q).swap hn.1 ej3 hlt hpi hp)
                    rw [eX, eY] at HS
                    have HG := Lib.hid (show j3 + 2 - (i2 + 1) < j + 2 - i from by have := hIb.out; have := hii.out; omega)
                    have i1 := w_sub1 ej3.symm u1
                    have i4 := w_add1 rfl u2
                    have cS := set_other (g := g) (show o + i2 ≠ o + j2 by omega)
                    clear eX eY hxy hp hn k1 k2 k3 u1 u2 hij ej3 hpi hlt
                    go_upto_region 15 with fail
                    go_quiet (first | (go_at_call 62; with_reducible exact Calls.quiet_of_same (CX.out _)))
                    rename_i nq
                    go_upto_region 18 with fail
                    go_region
                    have HS2 := Lib.hid (HS.out (nq + 1))
                    clear c0 c1 c2 f0 f1 cS HS
                    go_wp2_with fail
                    go_roundg (j3 + 2 - (i2 + 1))
                    case rel => exact ⟨i2 + 1, j3, Nat.le_refl _, by first | rfl | simp, rfl, _, HS2⟩
                    case measure => have := HG.out; have := hgoH.out; omega
                  · simp only [decide_eq_false hxy] at CX
                    have CX := Lib.hid CX
                    have hp : pL pv (fr j2) = false := by rw [eX]; unfold pL; simp [hxy]
                    have HG := Lib.hid (show j3 < j2 ∧ j3 ≤ j from by omega)
                    have HS := Lib.hid (fun q => show PT w g o n a b f pv (pL pv) i2 j3 fr (World.drewN _ q) ∧ (i2 ≤ j3 → pL pv (fr i2) = false) from ⟨PT.drewN (hK.out.1.right ej3 hij hp) q, fun h => hK.out.2 (by omega)⟩)
                    have i1 := w_sub1 ej3.symm u1
                    clear eX eY hxy hp hn k1 k2 k3 u1 u2 hij ej3 c2 f0 f1
                    go_upto_region 15 with fail
                    go_quiet (first | (go_at_call 62; with_reducible exact Calls.quiet_of_same (CX.out _)))
                    rename_i nq
                    have HS2 := Lib.hid (HS.out nq)
                    clear c0 c1 HS
                    go_wp2_with fail
                    go_roundg j3
                    case rel => exact ⟨j3, Nat.le_refl _, rfl, HG.out.2, HS2⟩
                    case measure => have := HG.out; omega
                · have q1 : ¬ (i2 : Int) ≤ j2 := by omega
                  have q1n : (i2 : Int) > j2 := by omega
                  have q1m : (j2 : Int) < i2 := q1n
                  have HS := Lib.hid (show PT w g o n a b f pv (pL pv) i2 j2 fr (World.drew _) ∧ j2 + 1 = i2 from ⟨hK.out.1.drew, by omega⟩)
                  clear hn k1 k2 k3 hij
                  go_upto_region 15 with fail
                  refine region_AU (Z := fun j => false) (S := fun _ => True) (by kernel_rfl) trivial (fun hHeld => ?_)
                  refine AUS_take (by kernel_rfl) rfl (i := 0) (oi := _) (v := ?vwd0) rfl (by kernel_rfl) (by kernel_rfl) (by kernel_rfl) (fun _ _ _ h => h) (Or.inl ⟨by rfl, ?hzd0⟩) hHeld ?rstd0
                  case hzd0 => (intro wS hSw; clear hSw; go_simp; try with_reducible rfl)
                  simp only [Act.put, List.getElem_toArray, List.getElem_cons_zero, List.getElem_cons_succ, List.setIfInBounds_toArray, List.set_cons_zero, List.set_cons_succ]
                  refine AUS_take (by kernel_rfl) rfl (i := 1) (oi := _) (v := ?vwd1) rfl (by kernel_rfl) (by kernel_rfl) (by kernel_rfl) (fun _ _ _ h => h) (Or.inl ⟨by rfl, ?hzd1⟩) hHeld ?rstd1
                  case hzd1 => (intro wS hSw; clear hSw; go_simp; try with_reducible rfl)
                  simp only [Act.put, List.getElem_toArray, List.getElem_cons_zero, List.getElem_cons_succ, List.setIfInBounds_toArray, List.set_cons_zero, List.set_cons_succ]
                  refine AUS_take (by kernel_rfl) rfl (i := 2) (oi := _) (v := ?vwd2) rfl (by kernel_rfl) (by kernel_rfl) (by kernel_rfl) (fun _ _ _ h => h) (Or.inl ⟨by rfl, ?hzd2⟩) hHeld ?rstd2
                  case hzd2 => (intro wS hSw; clear hSw; go_simp; try with_reducible rfl)
                  simp only [Act.put, List.getElem_toArray, List.getElem_cons_zero, List.getElem_cons_succ, List.setIfInBounds_toArray, List.set_cons_zero, List.set_cons_succ]
                  refine AUS_take (by kernel_rfl) rfl (i := 3) (oi := _) (v := ?vwd3) rfl (by kernel_rfl) (by kernel_rfl) (by kernel_rfl) (fun _ _ _ h => h) (Or.inl ⟨by rfl, ?hzd3⟩) hHeld ?rstd3
                  case hzd3 => (intro wS hSw; clear hSw; go_simp; try with_reducible rfl)
                  simp only [Act.put, List.getElem_toArray, List.getElem_cons_zero, List.getElem_cons_succ, List.setIfInBounds_toArray, List.set_cons_zero, List.set_cons_succ]
                  refine AUS_take (by kernel_rfl) rfl (i := 4) (oi := _) (v := undef) rfl (by kernel_rfl) (by kernel_rfl) (by kernel_rfl) (fun _ _ _ h => h) (Or.inr ⟨by rfl, rfl⟩) hHeld ?rstd4
                  try simp only [Act.put, List.getElem_toArray, List.getElem_cons_zero, List.getElem_cons_succ, List.setIfInBounds_toArray, List.set_cons_zero, List.set_cons_succ]
                  refine AUS_take (by kernel_rfl) rfl (i := 5) (oi := _) (v := undef) rfl (by kernel_rfl) (by kernel_rfl) (by kernel_rfl) (fun _ _ _ h => h) (Or.inr ⟨by rfl, rfl⟩) hHeld ?rstd5
                  try simp only [Act.put, List.getElem_toArray, List.getElem_cons_zero, List.getElem_cons_succ, List.setIfInBounds_toArray, List.set_cons_zero, List.set_cons_succ]
                  refine AUS_take (by kernel_rfl) rfl (i := 6) (oi := _) (v := undef) rfl (by kernel_rfl) (by kernel_rfl) (by kernel_rfl) (fun _ _ _ h => h) (Or.inr ⟨by rfl, rfl⟩) hHeld ?rstd6
                  try simp only [Act.put, List.getElem_toArray, List.getElem_cons_zero, List.getElem_cons_succ, List.setIfInBounds_toArray, List.set_cons_zero, List.set_cons_succ]
                  refine AUS_take (by kernel_rfl) rfl (i := 7) (oi := _) (v := undef) rfl (by kernel_rfl) (by kernel_rfl) (by kernel_rfl) (fun _ _ _ h => h) (Or.inr ⟨by rfl, rfl⟩) hHeld ?rstd7
                  try simp only [Act.put, List.getElem_toArray, List.getElem_cons_zero, List.getElem_cons_succ, List.setIfInBounds_toArray, List.set_cons_zero, List.set_cons_succ]
                  refine AUS_take (by kernel_rfl) rfl (i := 8) (oi := _) (v := undef) rfl (by kernel_rfl) (by kernel_rfl) (by kernel_rfl) (fun _ _ _ h => h) (Or.inr ⟨by rfl, rfl⟩) hHeld ?rstd8
                  try simp only [Act.put, List.getElem_toArray, List.getElem_cons_zero, List.getElem_cons_succ, List.setIfInBounds_toArray, List.set_cons_zero, List.set_cons_succ]
                  refine AUS_take (by kernel_rfl) rfl (i := 9) (oi := _) (v := undef) rfl (by kernel_rfl) (by kernel_rfl) (by kernel_rfl) (fun _ _ _ h => h) (Or.inr ⟨by rfl, rfl⟩) hHeld ?rstd9
                  try simp only [Act.put, List.getElem_toArray, List.getElem_cons_zero, List.getElem_cons_succ, List.setIfInBounds_toArray, List.set_cons_zero, List.set_cons_succ]
                  refine AUS_take (by kernel_rfl) rfl (i := 10) (oi := _) (v := undef) rfl (by kernel_rfl) (by kernel_rfl) (by kernel_rfl) (fun _ _ _ h => h) (Or.inr ⟨by rfl, rfl⟩) hHeld ?rstd10
                  try simp only [Act.put, List.getElem_toArray, List.getElem_cons_zero, List.getElem_cons_succ, List.setIfInBounds_toArray, List.set_cons_zero, List.set_cons_succ]
                  refine AUS_take (by kernel_rfl) rfl (i := 11) (oi := _) (v := undef) rfl (by kernel_rfl) (by kernel_rfl) (by kernel_rfl) (fun _ _ _ h => h) (Or.inr ⟨by rfl, rfl⟩) hHeld ?rstd11
                  try simp only [Act.put, List.getElem_toArray, List.getElem_cons_zero, List.getElem_cons_succ, List.setIfInBounds_toArray, List.set_cons_zero, List.set_cons_succ]
                  refine AUS_take (by kernel_rfl) rfl (i := 12) (oi := _) (v := undef) rfl (by kernel_rfl) (by kernel_rfl) (by kernel_rfl) (fun _ _ _ h => h) (Or.inr ⟨by rfl, rfl⟩) hHeld ?rstd12
                  try simp only [Act.put, List.getElem_toArray, List.getElem_cons_zero, List.getElem_cons_succ, List.setIfInBounds_toArray, List.set_cons_zero, List.set_cons_succ]
                  refine AUS_take (by kernel_rfl) rfl (i := 13) (oi := _) (v := undef) rfl (by kernel_rfl) (by kernel_rfl) (by kernel_rfl) (fun _ _ _ h => h) (Or.inr ⟨by rfl, rfl⟩) hHeld ?rstd13
                  try simp only [Act.put, List.getElem_toArray, List.getElem_cons_zero, List.getElem_cons_succ, List.setIfInBounds_toArray, List.set_cons_zero, List.set_cons_succ]
                  refine AUS_take (by kernel_rfl) rfl (i := 14) (oi := _) (v := ?vwd14) rfl (by kernel_rfl) (by kernel_rfl) (by kernel_rfl) (fun _ _ _ h => h) (Or.inl ⟨by rfl, ?hzd14⟩) hHeld ?rstd14
                  case hzd14 => (intro wS hSw; clear hSw; go_simp; try with_reducible rfl)
                  simp only [Act.put, List.getElem_toArray, List.getElem_cons_zero, List.getElem_cons_succ, List.setIfInBounds_toArray, List.set_cons_zero, List.set_cons_succ]
                  refine AU_done (by kernel_rfl) ?_ _
                  simp only [OnlyN]
                  go_upto_region 21 with fail
                  obtain ⟨W3, eW3⟩ : ∃ W3, World.drew wr = W3 := ⟨_, rfl⟩
                  rw [eW3] at HS ⊢
                  clear eW3 hK
                  have hk := HS.out.1
                  have hnn := HN.out
                  have kb := hk.b3
                  have kb1 := hk.b1
                  have d0 := hk.r.cell (k := j2) (by omega)
                  have d1 := hk.r.cell (k := a) (by omega)
                  have f0 := hk.r.frozen (o + j2)
                  have f1 := hk.r.frozen (o + a)
                  have q4 : (j2 : Int) < n := by omega
                  have q5 : (a : Int) < n := by omega
                  have HF := Lib.hid (fun q => PT.finish hk q hnn.1 HS.out.2)
                  rw [hk.v] at d1 HF
                  obtain ⟨Z, eZ⟩ : ∃ Z, fr j2 = Z := ⟨_, rfl⟩
                  rw [eZ] at d0 HF
                  by_cases hja : j2 = a
                  · have hZ : Z = pv := by rw [← eZ, hja]; exact hk.v
                    subst hja hZ
                    have cT : ∀ q, ((W3.drewN q).setCell ⟨g, o + j2, none⟩ (.int .u64 Z)).cell? ⟨g, o + j2, none⟩ = some (.int .u64 Z) := fun q => World.cell?_setCell_same _ _ _ (show (W3.drewN q).cell? ⟨g, o + j2, none⟩ = some (.int .u64 Z) from d0)
                    have cT2 : (W3.setCell ⟨g, o + j2, none⟩ (.int .u64 Z)).cell? ⟨g, o + j2, none⟩ = some (.int .u64 Z) := World.cell?_setCell_same _ _ _ d0
                    clear hk hnn kb kb1 eZ
                    go_region
                    have HF2 := Lib.hid (HF.out 1)
                    clear HF cT cT2 d0 d1 f0 f1
                    go_wp2_with fail
                    go_ret2
                    exact ⟨j2, false, rfl, _, HF2.out⟩
                  · have cS := set_other (g := g) (show o + j2 ≠ o + a by omega)
                    clear hk hnn kb kb1 eZ hja
                    go_region
                    have HF2 := Lib.hid (HF.out 1)
                    clear HF cS d0 d1 f0 f1
                    go_wp2_with fail
                    go_ret2
                    exact ⟨j2, false, rfl, _, HF2.out⟩
        · simp only [decide_eq_false hxy] at CX
          have CX := Lib.hid CX
          have hp : pL pv (fr j2) = false := by rw [eX]; unfold pL; simp [hxy]
          have HG := Lib.hid (show j3 < j2 ∧ j3 ≤ j from by omega)
          have HS := Lib.hid (fun q => show PT w g o n a b f pv (pL pv) i2 j3 fr (World.drewN _ q) ∧ (i2 ≤ j3 → pL pv (fr i2) = false) from ⟨PT.drewN (hK.out.1.right ej3 hij hp) q, fun h => hK.out.2 (by omega)⟩)
          have i1 := w_sub1 ej3.symm u1
          clear eX eY hxy hp hn k1 k2 k3 u1 u2 hij ej3 c2 f0 f1
          go_upto_region 5 with fail
          go_quiet (first | (go_at_call 62; with_reducible exact Calls.quiet_of_same (CX.out _)))
          rename_i nq
          have HS2 := Lib.hid (HS.out nq)
          clear c0 c1 HS
          go_wp2_with fail
          go_roundg j3
          case rel => exact ⟨j3, Nat.le_refl _, rfl, HG.out.2, HS2⟩
          case measure => have := HG.out; omega
      · have q1 : ¬ (i2 : Int) ≤ j2 := by omega
        have q1n : (i2 : Int) > j2 := by omega
        have q1m : (j2 : Int) < i2 := q1n
        have HS := Lib.hid (show PT w g o n a b f pv (pL pv) i2 j2 fr (World.drew _) ∧ j2 + 1 = i2 from ⟨hK.out.1.drew, by omega⟩)
        clear hn k1 k2 k3 hij
        go_upto_region 5 with fail
        refine region_AU (Z := fun j => false) (S := fun _ => True) (by kernel_rfl) trivial (fun hHeld => ?_)
        refine AUS_take (by kernel_rfl) rfl (i := 0) (oi := _) (v := ?vwb0) rfl (by kernel_rfl) (by kernel_rfl) (by kernel_rfl) (fun _ _ _ h => h) (Or.inl ⟨by rfl, ?hzb0⟩) hHeld ?rstb0
        case hzb0 => (intro wS hSw; clear hSw; go_simp; try with_reducible rfl)
        simp only [Act.put, List.getElem_toArray, List.getElem_cons_zero, List.getElem_cons_succ, List.setIfInBounds_toArray, List.set_cons_zero, List.set_cons_succ]
        refine AUS_take (by kernel_rfl) rfl (i := 1) (oi := _) (v := ?vwb1) rfl (by kernel_rfl) (by kernel_rfl) (by kernel_rfl) (fun _ _ _ h => h) (Or.inl ⟨by rfl, ?hzb1⟩) hHeld ?rstb1
        case hzb1 => (intro wS hSw; clear hSw; go_simp; try with_reducible rfl)
        simp only [Act.put, List.getElem_toArray, List.getElem_cons_zero, List.getElem_cons_succ, List.setIfInBounds_toArray, List.set_cons_zero, List.set_cons_succ]
        refine AUS_take (by kernel_rfl) rfl (i := 2) (oi := _) (v := ?vwb2) rfl (by kernel_rfl) (by kernel_rfl) (by kernel_rfl) (fun _ _ _ h => h) (Or.inl ⟨by rfl, ?hzb2⟩) hHeld ?rstb2
        case hzb2 => (intro wS hSw; clear hSw; go_simp; try with_reducible rfl)
        simp only [Act.put, List.getElem_toArray, List.getElem_cons_zero, List.getElem_cons_succ, List.setIfInBounds_toArray, List.set_cons_zero, List.set_cons_succ]
        refine AUS_take (by kernel_rfl) rfl (i := 3) (oi := _) (v := ?vwb3) rfl (by kernel_rfl) (by kernel_rfl) (by kernel_rfl) (fun _ _ _ h => h) (Or.inl ⟨by rfl, ?hzb3⟩) hHeld ?rstb3
        case hzb3 => (intro wS hSw; clear hSw; go_simp; try with_reducible rfl)
        simp only [Act.put, List.getElem_toArray, List.getElem_cons_zero, List.getElem_cons_succ, List.setIfInBounds_toArray, List.set_cons_zero, List.set_cons_succ]
        refine AUS_take (by kernel_rfl) rfl (i := 4) (oi := _) (v := undef) rfl (by kernel_rfl) (by kernel_rfl) (by kernel_rfl) (fun _ _ _ h => h) (Or.inr ⟨by rfl, rfl⟩) hHeld ?rstb4
        try simp only [Act.put, List.getElem_toArray, List.getElem_cons_zero, List.getElem_cons_succ, List.setIfInBounds_toArray, List.set_cons_zero, List.set_cons_succ]
        refine AUS_take (by kernel_rfl) rfl (i := 5) (oi := _) (v := undef) rfl (by kernel_rfl) (by kernel_rfl) (by kernel_rfl) (fun _ _ _ h => h) (Or.inr ⟨by rfl, rfl⟩) hHeld ?rstb5
        try simp only [Act.put, List.getElem_toArray, List.getElem_cons_zero, List.getElem_cons_succ, List.setIfInBounds_toArray, List.set_cons_zero, List.set_cons_succ]
        refine AUS_take (by kernel_rfl) rfl (i := 6) (oi := _) (v := undef) rfl (by kernel_rfl) (by kernel_rfl) (by kernel_rfl) (fun _ _ _ h => h) (Or.inr ⟨by rfl, rfl⟩) hHeld ?rstb6
        try simp only [Act.put, List.getElem_toArray, List.getElem_cons_zero, List.getElem_cons_succ, List.setIfInBounds_toArray, List.set_cons_zero, List.set_cons_succ]
        refine AUS_take (by kernel_rfl) rfl (i := 7) (oi := _) (v := undef) rfl (by kernel_rfl) (by kernel_rfl) (by kernel_rfl) (fun _ _ _ h => h) (Or.inr ⟨by rfl, rfl⟩) hHeld ?rstb7
        try simp only [Act.put, List.getElem_toArray, List.getElem_cons_zero, List.getElem_cons_succ, List.setIfInBounds_toArray, List.set_cons_zero, List.set_cons_succ]
        refine AUS_take (by kernel_rfl) rfl (i := 8) (oi := _) (v := undef) rfl (by kernel_rfl) (by kernel_rfl) (by kernel_rfl) (fun _ _ _ h => h) (Or.inr ⟨by rfl, rfl⟩) hHeld ?rstb8
        try simp only [Act.put, List.getElem_toArray, List.getElem_cons_zero, List.getElem_cons_succ, List.setIfInBounds_toArray, List.set_cons_zero, List.set_cons_succ]
        refine AUS_take (by kernel_rfl) rfl (i := 9) (oi := _) (v := undef) rfl (by kernel_rfl) (by kernel_rfl) (by kernel_rfl) (fun _ _ _ h => h) (Or.inr ⟨by rfl, rfl⟩) hHeld ?rstb9
        try simp only [Act.put, List.getElem_toArray, List.getElem_cons_zero, List.getElem_cons_succ, List.setIfInBounds_toArray, List.set_cons_zero, List.set_cons_succ]
        refine AUS_take (by kernel_rfl) rfl (i := 10) (oi := _) (v := undef) rfl (by kernel_rfl) (by kernel_rfl) (by kernel_rfl) (fun _ _ _ h => h) (Or.inr ⟨by rfl, rfl⟩) hHeld ?rstb10
        try simp only [Act.put, List.getElem_toArray, List.getElem_cons_zero, List.getElem_cons_succ, List.setIfInBounds_toArray, List.set_cons_zero, List.set_cons_succ]
        refine AUS_take (by kernel_rfl) rfl (i := 11) (oi := _) (v := undef) rfl (by kernel_rfl) (by kernel_rfl) (by kernel_rfl) (fun _ _ _ h => h) (Or.inr ⟨by rfl, rfl⟩) hHeld ?rstb11
        try simp only [Act.put, List.getElem_toArray, List.getElem_cons_zero, List.getElem_cons_succ, List.setIfInBounds_toArray, List.set_cons_zero, List.set_cons_succ]
        refine AUS_take (by kernel_rfl) rfl (i := 12) (oi := _) (v := undef) rfl (by kernel_rfl) (by kernel_rfl) (by kernel_rfl) (fun _ _ _ h => h) (Or.inr ⟨by rfl, rfl⟩) hHeld ?rstb12
        try simp only [Act.put, List.getElem_toArray, List.getElem_cons_zero, List.getElem_cons_succ, List.setIfInBounds_toArray, List.set_cons_zero, List.set_cons_succ]
        refine AUS_take (by kernel_rfl) rfl (i := 13) (oi := _) (v := undef) rfl (by kernel_rfl) (by kernel_rfl) (by kernel_rfl) (fun _ _ _ h => h) (Or.inr ⟨by rfl, rfl⟩) hHeld ?rstb13
        try simp only [Act.put, List.getElem_toArray, List.getElem_cons_zero, List.getElem_cons_succ, List.setIfInBounds_toArray, List.set_cons_zero, List.set_cons_succ]
        refine AUS_take (by kernel_rfl) rfl (i := 14) (oi := _) (v := ?vwb14) rfl (by kernel_rfl) (by kernel_rfl) (by kernel_rfl) (fun _ _ _ h => h) (Or.inl ⟨by rfl, ?hzb14⟩) hHeld ?rstb14
        case hzb14 => (intro wS hSw; clear hSw; go_simp; try with_reducible rfl)
        simp only [Act.put, List.getElem_toArray, List.getElem_cons_zero, List.getElem_cons_succ, List.setIfInBounds_toArray, List.set_cons_zero, List.set_cons_succ]
        refine AU_done (by kernel_rfl) ?_ _
        simp only [OnlyN]
        go_upto_region 8 with fail
        obtain ⟨W3, eW3⟩ : ∃ W3, World.drew wr = W3 := ⟨_, rfl⟩
        rw [eW3] at HS ⊢
        clear eW3 hK
        have hk := HS.out.1
        have hnn := HN.out
        have kb := hk.b3
        have kb1 := hk.b1
        have d0 := hk.r.cell (k := j2) (by omega)
        have d1 := hk.r.cell (k := a) (by omega)
        have f0 := hk.r.frozen (o + j2)
        have f1 := hk.r.frozen (o + a)
        have q4 : (j2 : Int) < n := by omega
        have q5 : (a : Int) < n := by omega
        have HF := Lib.hid (fun q => PT.finish hk q hnn.1 HS.out.2)
        rw [hk.v] at d1 HF
        obtain ⟨Z, eZ⟩ : ∃ Z, fr j2 = Z := ⟨_, rfl⟩
        rw [eZ] at d0 HF
        by_cases hja : j2 = a
        · have hZ : Z = pv := by rw [← eZ, hja]; exact hk.v
          subst hja hZ
          have cT : ∀ q, ((W3.drewN q).setCell ⟨g, o + j2, none⟩ (.int .u64 Z)).cell? ⟨g, o + j2, none⟩ = some (.int .u64 Z) := fun q => World.cell?_setCell_same _ _ _ (show (W3.drewN q).cell? ⟨g, o + j2, none⟩ = some (.int .u64 Z) from d0)
          have cT2 : (W3.setCell ⟨g, o + j2, none⟩ (.int .u64 Z)).cell? ⟨g, o + j2, none⟩ = some (.int .u64 Z) := World.cell?_setCell_same _ _ _ d0
          clear hk hnn kb kb1 eZ
          go_region
          have HF2 := Lib.hid (HF.out 1)
          clear HF cT cT2 d0 d1 f0 f1
          go_wp2_with fail
          go_ret2
          exact ⟨j2, true, rfl, _, HF2.out⟩
        · have cS := set_other (g := g) (show o + j2 ≠ o + a by omega)
          clear hk hnn kb kb1 eZ hja
          go_region
          have HF2 := Lib.hid (HF.out 1)
          clear HF cS d0 d1 f0 f1
          go_wp2_with fail
          go_ret2
          exact ⟨j2, true, rfl, _, HF2.out⟩
end Go.Proofs.Ytodionedjokdmaa
