/- DeleteFunc, without. -/
import Derived.Test.YtodionedjokdmaaOc
set_option linter.unusedVariables false
set_option linter.unusedSimpArgs false
namespace Go.Proofs.Ytodionedjokdmaa
open Go.RowKit
set_option linter.unusedVariables false
set_option linter.unusedSimpArgs false
/-- j have been looked at; k of them stay. -/
structure DS (own : Nat → Prop) (w : World) (g o c : Nat) (us : List Nat) (x k j : Nat) (ls : List Nat) (wr : World) : Prop where
  t : Turn [g] w wr
  r : RW own 28 inU wr (.slice (some ⟨g, o, none⟩) us.length c) ls
  l : ls.length = us.length
  a : ls.take k = (us.take j).filter (· != x)
  d : ls.drop j = us.drop j
  kj : k < j
  jl : j ≤ us.length
section
variable {own : Nat → Prop} {w wr : World} {g o c x k j : Nat} {us ls : List Nat}
theorem DS.at_ (h : DS own w g o c us x k j ls wr) (hj : j < us.length) : ls[j]? = us[j]? := by
  have := congrArg (fun l => l[0]?) h.d
  simpa using this
theorem DS.start (h : RW own 28 inU w (.slice (some ⟨g, o, none⟩) us.length c) us) (hk : us[k]? = some x) (hn : ∀ j, j < k → us[j]? ≠ some x) : DS own w g o c us x k (k + 1) us w := by
  have hl := (List.getElem?_eq_some_iff.1 hk).1
  refine ⟨Turn.refl _ _, h, rfl, ?_, rfl, by omega, by omega⟩
  rw [List.take_add_one, hk, List.filter_append]
  have h1 : (us.take k).filter (· != x) = us.take k := List.filter_eq_self.2 fun y hy => by
    obtain ⟨j, hj⟩ := List.mem_iff_getElem?.1 hy
    rw [List.getElem?_take] at hj
    split at hj
    · rename_i hjk
      have := hn j hjk
      rw [hj] at this
      have : y ≠ x := fun e => this (by rw [e])
      simpa using this
    · cases hj
  rw [h1]
  simp
theorem DS.skip (h : DS own w g o c us x k j ls wr) (hy : us[j]? = some x) : DS own w g o c us x k (j + 1) ls wr := by
  have hl := (List.getElem?_eq_some_iff.1 hy).1
  refine ⟨h.t, h.r, h.l, ?_, ?_, by have := h.kj; omega, by omega⟩
  · rw [h.a, List.take_add_one, hy, List.filter_append]; simp
  · rw [← List.drop_drop, h.d, List.drop_drop]
theorem DS.put (h : DS own w g o c us x k j ls wr) {y : Nat} (hy : us[j]? = some y) (hx : y ≠ x) : DS own w g o c us x (k + 1) (j + 1) (ls.set k y) (wr.setCell ⟨g, o + k, none⟩ (inU y)) := by
  have hl := (List.getElem?_eq_some_iff.1 hy).1
  have hkj := h.kj
  have hll := h.l
  refine ⟨h.t.trans (Turn.set _ g _ _) fun _ hx => .inl hx, (h.r.set (k := k) (y := y) (by omega)).1, by rw [List.length_set]; exact h.l, ?_, ?_, by omega, by omega⟩
  · rw [List.take_add_one, List.take_add_one, hy, List.filter_append, ← h.a]
    have h1 : (ls.set k y).take k = ls.take k := by rw [List.take_set]; exact List.set_eq_of_length_le (by rw [List.length_take]; omega)
    have h2 : (ls.set k y)[k]? = some y := by rw [List.getElem?_set_self (by omega)]
    rw [h1, h2]
    simp [hx]
  · rw [List.drop_set, if_pos (by omega), ← List.drop_drop, h.d, List.drop_drop]
end
set_option maxHeartbeats 2000000 in
set_option maxRecDepth 100000 in
theorem delf_any {own : Nat → Prop} {w : World} {g o c l P x : Nat} {us : List Nat} (hu : RW own 28 inU w (.slice (some ⟨g, o, none⟩) l c) us) (hl : us.length = l) (hm : l ≤ 100000) (hc : l ≤ c) (hP : w.cell? ⟨P, 0, none⟩ = some (inU x)) (hne : g ≠ P) :
    Calls Try.prog 37 #[.slice (some ⟨g, o, none⟩) l c, .func (.func 39) #[] #[.pointer (some ⟨P, 0, none⟩)]] w fun e w' => ∃ v, e = .returned v ∧ RW own 28 inU w' v (us.filter (· != x)) ∧ Turn [g] w w' := by
  obtain ⟨A', c', ev, _, _, hr⟩ := hu.form
  have hA : LR inU w (some ⟨g, o, none⟩) us := by injection ev with e1 _ _; rw [e1]; exact hr
  have CX := Lib.hid (index_any (c := c) hl hm hA hP)
  have hPl := World.block_lt_of_cell? w _ hP
  have CI := Lib.hid (fun (wr : World) (ht : Turn [g] w wr) a => isit_any (w := wr) a x (P := P) (by
    rw [World.cell?, ht.block P hPl (by simpa using fun e => hne e.symm)]; exact hP))
  have HL := Lib.hid (And.intro hl (And.intro hm hc))
  have HU := Lib.hid hu
  clear ev hr hA hu hP hne hPl
  go_enter Try.func37, Try.ntmps37
  go_wp2_with fail
  refine CX.out.mono ?_; rintro e w1 ⟨r, rfl, hr, rfl⟩
  rcases hr with ⟨rfl, hx⟩ | ⟨k, rfl, hk, hn⟩
  · have HX := Lib.hid (show us.filter (· != x) = us from List.filter_eq_self.2 fun y hy => by
      have : y ≠ x := fun e => hx (e ▸ hy)
      simpa using this)
    clear hx hl hm hc
    go_wp2_with fail
    go_ret
    exact ⟨_, rfl, by rw [HX.out]; exact HU.out, Turn.refl _ _⟩
  · have hkl := (List.getElem?_eq_some_iff.1 hk).1
    have HS : Hid (DS own w1 g o c us x k (k + 1) us w1) := Lib.hid (DS.start (by rw [hl]; exact HU.out) hk hn)
    have q1 : ¬ (k : Int) = -1 := by omega
    have i1 : IntKind.i64.wrap ((k : Int) + 1) = ((k + 1 : Nat) : Int) := by rw [IntKind.wrap_i64]; omega
    have K1 := Lib.hid (show k + 1 ≤ l by omega)
    clear hk hn hkl hl hm hc CX
    go_wp2_with fail
    go_loopg [5, 6] l (fun gh v5 v6 wr => ∃ (k j : Nat) (ls : List Nat), j ≤ l ∧ l - j ≤ gh ∧ v5 = .int .i64 k ∧ v6 = .int .i64 j ∧ Hid (DS own w1 g o c us x k j ls wr))
    case atStart => exact ⟨k, k + 1, us, K1.out, by omega, rfl, rfl, HS⟩
    case round =>
      clear HS i1 q1 K1
      obtain ⟨k, j, ls, hjl, hg, rfl, rfl, hI⟩ := hrel
      have hll := HL.out
      have hkj := hI.out.kj
      by_cases hlt : j < l
      · obtain ⟨y, hy⟩ : ∃ y, us[j]? = some y := ⟨_, List.getElem?_eq_getElem (by omega)⟩
        have hyl := (hI.out.at_ (by omega)).trans hy
        have c0 : wr.cell? ⟨g, o + j, none⟩ = some (.int .u64 (y : Int)) := by
          obtain ⟨A', c', ev, _, _, hr⟩ := hI.out.r.form
          injection ev with e1 _ _
          rw [← e1] at hr
          exact hr.at_ hyl
        obtain ⟨-, f0, ⟨z, cz⟩, -⟩ := hI.out.r.set (k := k) (y := 0) (by have := hI.out.l; omega)
        have C := Lib.hid (CI.out wr hI.out.t (y : Int))
        have l1 : (j : Int) < l := by omega
        have l2 : (k : Int) < l := by omega
        have i1 : IntKind.i64.wrap ((j : Int) + 1) = ((j + 1 : Nat) : Int) := by rw [IntKind.wrap_i64]; omega
        have i2 : IntKind.i64.wrap ((k : Int) + 1) = ((k + 1 : Nat) : Int) := by rw [IntKind.wrap_i64]; omega
        by_cases hxy : y = x
        · have q0 : ((y : Int) == (x : Int)) = true := by simp [hxy]
          rw [q0] at C
          have HS := Lib.hid (hI.out.skip (by rw [hy, hxy]))
          have HG := Lib.hid (show j + 1 ≤ l ∧ j < l by omega)
          clear q0 hxy hy hyl hll hkj f0 cz hjl hlt
          go_wp2_with fail
          refine C.out.mono ?_; rintro e w2 ⟨rfl, rfl⟩
          clear c0
          go_wp2_with fail
          go_roundg (l - (j + 1))
          case rel => exact ⟨k, j + 1, ls, HG.out.1, Nat.le_refl _, rfl, by first | rfl | simp, HS⟩
          case measure => have := HG.out; omega
        · have q0 : ((y : Int) == (x : Int)) = false := by simp; omega
          rw [q0] at C
          have HS := Lib.hid (hI.out.put hy hxy)
          have HG := Lib.hid (show j + 1 ≤ l ∧ j < l by omega)
          unfold inU at HS
          clear q0 hxy hy hyl hll hkj hjl hlt
          go_wp2_with fail
          refine C.out.mono ?_; rintro e w2 ⟨rfl, rfl⟩
          clear c0
          go_wp2_with fail
          go_roundg (l - (j + 1))
          case rel => exact ⟨k + 1, j + 1, _, HG.out.1, Nat.le_refl _, by first | rfl | simp, by first | rfl | simp, HS⟩
          case measure => have := HG.out; omega
      · obtain rfl : j = l := by omega
        have hr := hI.out.r
        have hls := hI.out.l
        have hkl : k < j := hkj
        obtain ⟨n3, en3⟩ : ∃ n3, j - k = n3 := ⟨_, rfl⟩
        obtain ⟨c3, ec3⟩ : ∃ c3, c - k = c3 := ⟨_, rfl⟩
        have hck : ¬ c = k := by omega
        have i6 : (k : Int) ≤ j := by omega
        have i7 : (k : Int) ≤ c := by omega
        rw [hll.1] at hr
        have hrun := Lib.run_clear_slice (P := Try.prog) wr 27 28 0 (.int .u64 0) Try.underlying27 zeroU rfl rfl g (o + k) n3 c3 (by omega) (fun i hi => by
          obtain ⟨-, _, ⟨z, cz⟩, -⟩ := hr.set (k := k + i) (y := 0) (by omega)
          rw [← Nat.add_assoc] at cz
          rw [cz]; rfl) (fun i hi => by
          obtain ⟨-, f0, _, -⟩ := hr.set (k := k + i) (y := 0) (by omega)
          rw [← Nat.add_assoc] at f0
          exact f0)
        obtain ⟨W9, eW9⟩ : ∃ W9, wr.setCells g (o + k) (List.replicate n3 (Value.int .u64 0)) = W9 := ⟨_, rfl⟩
        have HF := Lib.hid (show RW own 28 inU W9 (.slice (some ⟨g, o, none⟩) k c) (us.filter (· != x)) ∧ Turn [g] w1 W9 from by
          rw [← eW9]
          have h1 := hr.take (k := k) (by omega)
          rw [hI.out.a, List.take_of_length_le (by omega)] at h1
          exact ⟨h1.setCells _ (Nat.le_refl _), hI.out.t.trans (turn_setCells g _ _ _) fun _ hx => .inl hx⟩)
        rw [eW9] at hrun
        clear eW9 hr hls hll hkj hkl hg hjl hlt
        go_upto_region 11 with fail
        go_wp2_with fail
        go_ret
        exact ⟨_, rfl, HF.out⟩
/-- without. -/
theorem delf_nil {w : World} {P x : Nat} (hP : w.cell? ⟨P, 0, none⟩ = some (inU x)) :
    Calls Try.prog 37 #[.slice none 0 0, .func (.func 39) #[] #[.pointer (some ⟨P, 0, none⟩)]] w fun e w' => e = .returned (.slice none 0 0) ∧ w' = w := by
  have CX := Lib.hid (index_any (c := 0) (us := []) rfl (Nat.zero_le _) (LR.nil w none) hP)
  clear hP
  go_enter Try.func37, Try.ntmps37
  go_wp2_with fail
  refine CX.out.mono ?_; rintro e w1 ⟨r, rfl, hr, rfl⟩
  rcases hr with ⟨rfl, hx⟩ | ⟨k, rfl, hk, hn⟩
  · go_wp2_with fail
    go_ret
    exact ⟨rfl, rfl⟩
  · simp at hk
theorem without_any {w : World} {A : Option Addr} {l c x : Nat} {us : List Nat} (hl : us.length = l) (hm : l ≤ 100000) (hc : l ≤ c) (hr : LR inU w A us) :
    Calls Try.prog 26 #[.slice A l c, .int .u64 (x : Int)] w fun e w' => ∃ v, e = .returned v ∧ RW (fun b => w.heap.size ≤ b) 28 inU w' v (us.filter (· != x)) ∧ Below w.heap.size w w' := by
  have b1 := below_alloc1 w (Obj.cells #[.int .u64 (x : Int)] 28)
  have hP := heap_alloc_new w (Obj.cells #[.int .u64 (x : Int)] 28)
  obtain ⟨W1, eW1⟩ : ∃ W1, w.alloc (Obj.cells #[.int .u64 (x : Int)] 28) = W1 := ⟨_, rfl⟩
  obtain ⟨P, eP⟩ : ∃ P, w.heap.size = P := ⟨_, rfl⟩
  rw [eW1] at b1 hP
  rw [eP] at hP
  have C := Lib.hid (clone_u (w := W1) (A := A) hl hm hc (hr.below b1))
  have HE := Lib.hid (And.intro eW1 (And.intro eP (And.intro b1 hP)))
  have HL := Lib.hid (And.intro hl hm)
  clear hr b1 hP eW1 eP hl hm hc
  go_enter Try.func26, Try.ntmps26
  go_upto_region 1 with fail
  rw [HE.out.1, HE.out.2.1]
  go_wp2_with fail
  refine C.out.mono ?_; rintro e w2 ⟨v, rfl, hv, hb⟩
  obtain ⟨-, eP, b1, hP⟩ := HE.out
  have hPl := (Array.getElem?_eq_some_iff.1 hP).1
  have c2 : w2.cell? ⟨P, 0, none⟩ = some (inU x) := by
    rw [hb.cell (p := ⟨P, 0, none⟩) hPl, cell_of_row _ _ _ _ _ (0, 0) hP]; rfl
  have B2 := below_up b1 hb
  rcases hv with ⟨rfl, rfl⟩ | ⟨g, o, cap, cur, rfl, hg, hrow⟩
  · have D := Lib.hid (delf_nil c2)
    have H2 := Lib.hid B2
    clear c2 hPl hP b1 eP B2 hb
    go_wp2_with fail
    refine D.out.mono ?_; rintro e w3 ⟨rfl, rfl⟩
    go_wp2_with fail
    go_ret
    exact ⟨_, rfl, RW.nil _ _, H2.out⟩
  · have hv : RW (fun b => W1.heap.size ≤ b) 28 inU w2 (.slice (some ⟨g, o, none⟩) l cap) us := by rw [← HL.out.1]; exact .inr ⟨g, o, cap, cur, rfl, hg, hrow⟩
    have hcap : l ≤ cap := by rw [← HL.out.1]; exact hrow.2.2.1
    have D := Lib.hid (delf_any hv HL.out.1 HL.out.2 hcap c2 (by omega))
    have H2 := Lib.hid (And.intro B2 (show w.heap.size ≤ g from by have := b1.size; omega))
    have eL := HL.out.1
    have HB := Lib.hid b1.size
    rw [eL]
    clear c2 hPl hP b1 eP B2 hb hv hcap hrow hg eL
    go_wp2_with fail
    refine D.out.mono ?_; rintro e w3 ⟨v, rfl, hv, ht⟩
    have H3 := Lib.hid (And.intro hv ht)
    obtain ⟨A9, c9, rfl, _⟩ := hv.form
    clear hv ht
    go_wp2_with fail
    go_ret
    refine ⟨_, rfl, H3.out.1.mono fun b hb => by have := HB.out; omega, H2.out.1.trans (H3.out.2.below H2.out.1.size fun b hb => ?_)⟩
    rw [List.mem_singleton.1 hb]; exact H2.out.2
end Go.Proofs.Ytodionedjokdmaa
