/- maps.Right, and maps of a configuration. -/
import Derived.Test.YtmadldgajjgbmaaDa
set_option linter.unusedVariables false
set_option linter.unusedSimpArgs false
namespace Go.Proofs.Ytmadldgajjgbmaa
open Go.RowKit
set_option linter.unusedVariables false
set_option linter.unusedSimpArgs false
def mvl (x : Mp) : Bool := decide (1 ≤ x.n ∧ x.n ≤ 16 ∧ 0 ≤ x.at_ ∧ x.at_ ≤ 4096 - x.n ∧ 0 ≤ x.fr ∧ x.fr ≤ 16 - x.n ∧ x.sg ≠ 0)
def mck : Int → List Mp → Bool
  | _, [] => true
  | e, x :: r => mvl x && (!decide (x.at_ < e) && mck (x.at_ + x.n) r)
def mpsR (xs : List Mp) : Bool := decide (xs.length ≤ 16) && mck 0 xs
theorem mchk_eq (n : Nat) : ∀ (l : List Mp) (e : Int), 0 ≤ e → mchk n e l = (mck e l && !(l.any fun x => decide (n < x.sg)))
  | [], _, _ => rfl
  | x :: r, e, he => by
    unfold mchk mck
    rw [List.any_cons]
    by_cases a : mvl x = true
    · have a' := a
      unfold mvl at a'
      simp only [decide_eq_true_eq] at a'
      by_cases b : x.at_ < e
      · rw [a, decide_eq_true b, decide_eq_true (show mbad n e x by unfold mbad; omega)]; rfl
      · by_cases c : n < x.sg
        · rw [a, decide_eq_false b, decide_eq_true c, decide_eq_true (show mbad n e x by unfold mbad; omega)]; simp
        · rw [a, decide_eq_false b, decide_eq_false c, decide_eq_false (show ¬ mbad n e x by unfold mbad; omega), mchk_eq n r _ (by omega)]; rfl
    · have a2 := a
      unfold mvl at a2
      simp only [decide_eq_true_eq] at a2
      rw [Bool.eq_false_iff.2 a, decide_eq_true (show mbad n e x by unfold mbad; omega)]; rfl
theorem mapsB_eq (n : Nat) (l : List Mp) : mapsB n l = (mpsR l && !(l.any fun x => decide (n < x.sg))) := by
  unfold mapsB mpsR
  rw [mchk_eq n l 0 (Int.le_refl 0)]
  cases mck 0 l <;> cases decide (l.length ≤ 16) <;> cases (l.any fun x => decide (n < x.sg)) <;> rfl
theorem mvalid_any (x : Mp) (ho : x.Ok) (w : World) : Calls Try.prog 77 #[.agg #[.int .i64 x.at_, .int .u64 (x.sg : Int), .int .i64 x.fr, .int .i64 x.n, .bool x.wr]] w (BB w (mvl x)) := by
  have HB := Lib.hid (below_alloc1 w (Obj.cells #[.int .i64 x.at_, .int .u64 (x.sg : Int), .int .i64 x.fr, .int .i64 x.n, .bool x.wr] 93))
  by_cases c0 : 1 ≤ x.n
  case neg =>
    have f0a : ¬ (1 ≤ x.n) := by omega
    rw [show mvl x = false from decide_eq_false (by omega)]
    clear ho c0
    go_enter Try.func77, Try.ntmps77
    go_wp2_with fail
    go_ret
    exact ⟨rfl, HB.out⟩
  by_cases c1 : x.n ≤ 16
  case neg =>
    have f0a : (1 ≤ x.n) := by omega
    have f1a : ¬ (x.n ≤ 16) := by omega
    rw [show mvl x = false from decide_eq_false (by omega)]
    clear ho c0 c1
    go_enter Try.func77, Try.ntmps77
    go_wp2_with fail
    go_ret
    exact ⟨rfl, HB.out⟩
  by_cases c2 : 0 ≤ x.at_
  case neg =>
    have f0a : (1 ≤ x.n) := by omega
    have f1a : (x.n ≤ 16) := by omega
    have f2a : ¬ (0 ≤ x.at_) := by omega
    rw [show mvl x = false from decide_eq_false (by omega)]
    clear ho c0 c1 c2
    go_enter Try.func77, Try.ntmps77
    go_wp2_with fail
    go_ret
    exact ⟨rfl, HB.out⟩
  by_cases c3 : x.at_ ≤ 4096 - x.n
  case neg =>
    have f0a : (1 ≤ x.n) := by omega
    have f1a : (x.n ≤ 16) := by omega
    have f2a : (0 ≤ x.at_) := by omega
    have w3 : IntKind.i64.wrap (4096 - x.n) = 4096 - x.n := by rw [IntKind.wrap_i64]; omega
    have f3a : ¬ (x.at_ ≤ 4096 - x.n) := by omega
    rw [show mvl x = false from decide_eq_false (by omega)]
    clear ho c0 c1 c2 c3
    go_enter Try.func77, Try.ntmps77
    go_wp2_with fail
    go_ret
    exact ⟨rfl, HB.out⟩
  by_cases c4 : 0 ≤ x.fr
  case neg =>
    have f0a : (1 ≤ x.n) := by omega
    have f1a : (x.n ≤ 16) := by omega
    have f2a : (0 ≤ x.at_) := by omega
    have w3 : IntKind.i64.wrap (4096 - x.n) = 4096 - x.n := by rw [IntKind.wrap_i64]; omega
    have f3a : (x.at_ ≤ 4096 - x.n) := by omega
    have f4a : ¬ (0 ≤ x.fr) := by omega
    rw [show mvl x = false from decide_eq_false (by omega)]
    clear ho c0 c1 c2 c3 c4
    go_enter Try.func77, Try.ntmps77
    go_wp2_with fail
    go_ret
    exact ⟨rfl, HB.out⟩
  by_cases c5 : x.fr ≤ 16 - x.n
  case neg =>
    have f0a : (1 ≤ x.n) := by omega
    have f1a : (x.n ≤ 16) := by omega
    have f2a : (0 ≤ x.at_) := by omega
    have w3 : IntKind.i64.wrap (4096 - x.n) = 4096 - x.n := by rw [IntKind.wrap_i64]; omega
    have f3a : (x.at_ ≤ 4096 - x.n) := by omega
    have f4a : (0 ≤ x.fr) := by omega
    have w5 : IntKind.i64.wrap (16 - x.n) = 16 - x.n := by rw [IntKind.wrap_i64]; omega
    have f5a : ¬ (x.fr ≤ 16 - x.n) := by omega
    rw [show mvl x = false from decide_eq_false (by omega)]
    clear ho c0 c1 c2 c3 c4 c5
    go_enter Try.func77, Try.ntmps77
    go_wp2_with fail
    go_ret
    exact ⟨rfl, HB.out⟩
  by_cases c6 : x.sg ≠ 0
  case neg =>
    have f0a : (1 ≤ x.n) := by omega
    have f1a : (x.n ≤ 16) := by omega
    have f2a : (0 ≤ x.at_) := by omega
    have w3 : IntKind.i64.wrap (4096 - x.n) = 4096 - x.n := by rw [IntKind.wrap_i64]; omega
    have f3a : (x.at_ ≤ 4096 - x.n) := by omega
    have f4a : (0 ≤ x.fr) := by omega
    have w5 : IntKind.i64.wrap (16 - x.n) = 16 - x.n := by rw [IntKind.wrap_i64]; omega
    have f5a : (x.fr ≤ 16 - x.n) := by omega
    have f6a : ((x.sg : Int) == 0) = true := by simp; omega
    have f6b : ((x.sg : Int) != 0) = false := by simp; omega
    rw [show mvl x = false from decide_eq_false (by omega)]
    clear ho c0 c1 c2 c3 c4 c5 c6
    go_enter Try.func77, Try.ntmps77
    go_wp2_with fail
    go_ret
    exact ⟨rfl, HB.out⟩
  have f0a : (1 ≤ x.n) := by omega
  have f1a : (x.n ≤ 16) := by omega
  have f2a : (0 ≤ x.at_) := by omega
  have w3 : IntKind.i64.wrap (4096 - x.n) = 4096 - x.n := by rw [IntKind.wrap_i64]; omega
  have f3a : (x.at_ ≤ 4096 - x.n) := by omega
  have f4a : (0 ≤ x.fr) := by omega
  have w5 : IntKind.i64.wrap (16 - x.n) = 16 - x.n := by rw [IntKind.wrap_i64]; omega
  have f5a : (x.fr ≤ 16 - x.n) := by omega
  have f6a : ((x.sg : Int) == 0) = false := by simp; omega
  have f6b : ((x.sg : Int) != 0) = true := by simp; omega
  rw [show mvl x = true from decide_eq_true (by omega)]
  clear ho c0 c1 c2 c3 c4 c5 c6
  go_enter Try.func77, Try.ntmps77
  go_wp2_with fail
  go_ret
  exact ⟨rfl, HB.out⟩
theorem mend_any (x : Mp) (h1 : 0 ≤ x.at_ ∧ x.at_ ≤ 4096) (h2 : 0 ≤ x.n ∧ x.n ≤ 16) (w : World) : Calls Try.prog 78 #[.agg #[.int .i64 x.at_, .int .u64 (x.sg : Int), .int .i64 x.fr, .int .i64 x.n, .bool x.wr]] w fun e w' => e = .returned (.int .i64 (x.at_ + x.n)) ∧ Below w.heap.size w w' := by
  have HB := Lib.hid (below_alloc1 w (Obj.cells #[.int .i64 x.at_, .int .u64 (x.sg : Int), .int .i64 x.fr, .int .i64 x.n, .bool x.wr] 93))
  have i0 : IntKind.i64.wrap (x.at_ + x.n) = x.at_ + x.n := by rw [IntKind.wrap_i64]; omega
  clear h1 h2
  go_enter Try.func78, Try.ntmps78
  go_wp2_with fail
  go_ret
  exact ⟨rfl, HB.out⟩
set_option maxHeartbeats 2000000 in
theorem mright_any {w : World} {A : Option Addr} {n cp : Nat} {xs : List Mp} (hl : xs.length = n) (hb : n ≤ 100000) (ho : ∀ x ∈ xs, x.Ok) (hr : LV 5 encM w A xs) :
    Calls Try.prog 67 #[.slice A n cp] w (BB w (mpsR xs)) := by
  by_cases h8 : 16 < n
  · have n8 : (n : Int) > 16 := by omega
    have n8' : (16 : Int) < n := by omega
    rw [show mpsR xs = false by unfold mpsR; rw [hl, decide_eq_false (by omega)]; rfl]
    clear hl hr
    go_enter Try.func67, Try.ntmps67
    go_wp2_with fail
    go_ret
    exact ⟨rfl, Below.refl _ _⟩
  have n8 : ¬ (n : Int) > 16 := by omega
  have n8' : ¬ (16 : Int) < n := by omega
  have HX := Lib.hid (show mpsR xs = mck 0 xs by unfold mpsR; rw [hl, decide_eq_true (by omega)]; rfl)
  have HR := Lib.hid (And.intro hl (And.intro hr ho))
  clear hl hr
  rw [HX.out]
  clear HX ho
  go_enter Try.func67, Try.ntmps67
  go_wp2_with fail
  go_loopg [3, 11] n (fun gh ve vi wr => ∃ (k : Nat) (e : Int), k ≤ n ∧ n - k ≤ gh ∧ ve = .int .i64 e ∧ vi = .int .i64 k ∧ Hid (mck 0 xs = mck e (xs.drop k) ∧ Below w.heap.size w wr))
  case atStart => exact ⟨0, 0, by omega, by omega, rfl, rfl, Lib.hid ⟨rfl, Below.refl _ _⟩⟩
  case round =>
    obtain ⟨k, en, hk, hg, rfl, rfl, hI⟩ := hrel
    by_cases hlt : k < n
    · obtain ⟨x, hx⟩ : ∃ x, xs[k]? = some x := ⟨_, List.getElem?_eq_getElem (by rw [HR.out.1]; exact hlt)⟩
      have hd : xs.drop k = x :: xs.drop (k + 1) := by
        obtain ⟨h1, h2⟩ := List.getElem?_eq_some_iff.1 hx
        rw [← h2]; exact (List.getElem_cons_drop h1).symm
      have hr := HR.out.2.1.below hI.out.2
      have hok := HR.out.2.2 x (List.mem_of_getElem? hx)
      obtain ⟨b, off, rfl⟩ := hr.some_ (by have := HR.out.1; omega)
      have k0 := hr.at_ (j := 0) hx (u := .int .i64 x.at_) rfl
      rw [Nat.add_zero] at k0
      have k1 := hr.at_ (j := 1) hx (u := inU x.sg) rfl
      have k2 := hr.at_ (j := 2) hx (u := .int .i64 x.fr) rfl
      have k3 := hr.at_ (j := 3) hx (u := .int .i64 x.n) rfl
      have k4 := hr.at_ (j := 4) hx (u := .bool x.wr) rfl
      unfold inU at k1
      have i1 : IntKind.i64.wrap ((k : Int) + 1) = ((k + 1 : Nat) : Int) := by rw [IntKind.wrap_i64]; omega
      have l1 : (k : Int) < n := by omega
      have h1 : mck 0 xs = (mvl x && (!decide (x.at_ < en) && mck (x.at_ + x.n) (xs.drop (k + 1)))) := by rw [hI.out.1, hd]; rfl
      obtain ⟨bv, ebv⟩ : ∃ bv, mvl x = bv := ⟨_, rfl⟩
      have HV := Lib.hid ebv
      rw [ebv] at h1
      have HG := Lib.hid (And.intro hg hlt)
      have H1 := Lib.hid h1
      obtain ⟨w0, e0⟩ : ∃ w0, wr.alloc (Obj.cells #[.int .i64 x.at_, .int .u64 (x.sg : Int), .int .i64 x.fr, .int .i64 x.n, .bool x.wr] 93) = w0 := ⟨_, rfl⟩
      obtain ⟨X, eX⟩ : ∃ X, wr.heap.size = X := ⟨_, rfl⟩
      have hP0 : w0.heap[X]? = some (Obj.cells #[.int .i64 x.at_, .int .u64 (x.sg : Int), .int .i64 x.fr, .int .i64 x.n, .bool x.wr] 93) := by rw [← e0, ← eX]; exact heap_alloc_new wr _
      have HP := Lib.hid hP0
      have HB := Lib.hid (hI.out.2.trans ((show Below wr.heap.size wr w0 by rw [← e0]; exact below_alloc1 wr _).mono hI.out.2.size))
      have C := Lib.hid (mvalid_any x hok w0)
      rw [HV.out] at C
      have fc : ∀ wz, Below w0.heap.size w0 wz → wz.cell? ⟨X, 0, none⟩ = some (.int .i64 x.at_) ∧ wz.cell? ⟨X, 1, none⟩ = some (.int .u64 (x.sg : Int)) ∧ wz.cell? ⟨X, 2, none⟩ = some (.int .i64 x.fr) ∧ wz.cell? ⟨X, 3, none⟩ = some (.int .i64 x.n) ∧ wz.cell? ⟨X, 4, none⟩ = some (.bool x.wr) := fun wz hz => by
        have h2 := (hz.block _ (Array.getElem?_eq_some_iff.1 HP.out).1).trans HP.out
        refine ⟨?_, ?_, ?_, ?_, ?_⟩ <;> (rw [cell_of_row _ _ _ _ _ (0, 0) h2]; rfl)
      have HF := Lib.hid fc
      obtain ⟨d0, d1, d2, d3, d4⟩ := fc w0 (Below.refl _ _)
      clear hx hr hd h1 hI hg hlt hP0 ebv fc
      go_upto_region 7 with fail
      try rw [eX]
      try rw [e0]
      clear e0 eX k0 k1 k2 k3 k4
      go_wp2_with fail
      refine C.out.mono ?_; rintro e w1 ⟨rfl, hb1⟩
      have HB1 := Lib.hid (HB.out.trans (hb1.mono HB.out.size))
      have Hb1 := Lib.hid hb1
      obtain ⟨g0, g1, g2, g3, g4⟩ := HF.out w1 hb1
      clear hb1 C HB d0 d1 d2 d3 d4
      cases bv
      · have HX := Lib.hid (show mck 0 xs = false by rw [H1.out]; rfl)
        go_wp2_with fail
        go_ret
        exact ⟨ret_b HX.out, HB1.out⟩
      have hm := HV.out
      unfold mvl at hm
      simp only [decide_eq_true_eq] at hm
      by_cases c : x.at_ < en
      · have HX := Lib.hid (show mck 0 xs = false by rw [H1.out, decide_eq_true c]; rfl)
        clear hm hok
        go_wp2_with fail
        go_ret
        exact ⟨ret_b HX.out, HB1.out⟩
      · have HX := Lib.hid (show mck 0 xs = mck (x.at_ + x.n) (xs.drop (k + 1)) by rw [H1.out, decide_eq_false c]; rfl)
        have C := Lib.hid (mend_any x (by omega) (by omega) w1)
        clear hm hok
        go_wp2_with fail
        refine C.out.mono ?_; rintro e w2 ⟨rfl, hb2⟩
        have HB2 := Lib.hid (HB1.out.trans (hb2.mono HB1.out.size))
        clear hb2 C g0 g1 g2 g3 g4 Hb1 HB1
        go_wp2_with fail
        go_roundg (n - (k + 1))
        case rel => exact ⟨k + 1, x.at_ + x.n, HG.out.2, Nat.le_refl _, by first | rfl | simp, by first | rfl | simp, Lib.hid ⟨HX.out, HB2.out⟩⟩
        case measure => have := HG.out; omega
    · have l1 : ¬ (k : Int) < n := by omega
      have HF := Lib.hid (show mck 0 xs = true by rw [hI.out.1, List.drop_eq_nil_of_le (by have := HR.out.1; omega)]; rfl)
      have HB := Lib.hid hI.out.2
      clear hI hg hlt
      go_wp2_with fail
      go_ret
      exact ⟨ret_b HF.out, HB.out⟩
theorem isms_any (x : Mp) {w : World} {P n : Nat} (hn : n ≤ 100000) (hP : w.cell? ⟨P, 0, none⟩ = some (.int .i64 n)) :
    Calls Try.prog 69 #[.agg #[.int .i64 x.at_, .int .u64 (x.sg : Int), .int .i64 x.fr, .int .i64 x.n, .bool x.wr], .pointer (some ⟨P, 0, none⟩)] w (BB w (decide (n < x.sg))) := by
  have hb := Lib.hid (below_alloc1 w (Obj.cells #[.int .i64 x.at_, .int .u64 (x.sg : Int), .int .i64 x.fr, .int .i64 x.n, .bool x.wr] 93))
  have hlt := World.block_lt_of_cell? w _ hP
  have hP1 : (w.alloc (Obj.cells #[.int .i64 x.at_, .int .u64 (x.sg : Int), .int .i64 x.fr, .int .i64 x.n, .bool x.wr] 93)).cell? ⟨P, 0, none⟩ = some (.int .i64 n) := by rw [hb.out.cell (p := ⟨P, 0, none⟩) hlt]; exact hP
  have i0 : IntKind.u64.wrap (n : Int) = (n : Int) := by rw [IntKind.wrap_u64]; omega
  by_cases h : n < x.sg
  · have q1 : (x.sg : Int) > n := by omega
    have q2 : (n : Int) < x.sg := by omega
    rw [decide_eq_true h]
    go_enter Try.func69, Try.ntmps69
    go_wp2_with fail
    go_ret
    exact ⟨rfl, hb.out⟩
  · have q1 : ¬ (x.sg : Int) > n := by omega
    have q2 : ¬ (n : Int) < x.sg := by omega
    rw [decide_eq_false h]
    go_enter Try.func69, Try.ntmps69
    go_wp2_with fail
    go_ret
    exact ⟨rfl, hb.out⟩
set_option maxHeartbeats 1000000 in
theorem mindex_any {w : World} {A : Option Addr} {l c P n : Nat} {xs : List Mp} (hl : xs.length = l) (hm : l ≤ 100000) (hn : n ≤ 100000) (hr : LV 5 encM w A xs) (hP : w.cell? ⟨P, 0, none⟩ = some (.int .i64 n)) :
    Calls Try.prog 79 #[.slice A l c, .func (.func 69) #[] #[.pointer (some ⟨P, 0, none⟩)]] w fun e w' => ∃ r : Int, e = .returned (.int .i64 r) ∧ (decide (0 ≤ r)) = xs.any (fun x => decide (n < x.sg)) ∧ Below w.heap.size w w' := by
  have HR := Lib.hid hr
  have HL := Lib.hid hl
  have HP := Lib.hid (And.intro hP (World.block_lt_of_cell? w _ hP))
  clear hr hl hP
  go_enter Try.func79, Try.ntmps79
  go_wp2_with fail
  go_loopg [8] l (fun gh i wr => ∃ k : Nat, k ≤ l ∧ l - k ≤ gh ∧ i = .int .i64 k ∧ Hid ((xs.any fun x => decide (n < x.sg)) = ((xs.drop k).any fun x => decide (n < x.sg))) ∧ Hid (Below w.heap.size w wr))
  case atStart => exact ⟨0, by omega, by omega, rfl, Lib.hid rfl, Lib.hid (Below.refl _ _)⟩
  case round =>
    obtain ⟨k, hk, hg, rfl, hx, hI⟩ := hrel
    by_cases hlt : k < l
    · obtain ⟨x, hy⟩ : ∃ m, xs[k]? = some m := ⟨_, List.getElem?_eq_getElem (by rw [HL.out]; exact hlt)⟩
      have hd : xs.drop k = x :: xs.drop (k + 1) := by
        obtain ⟨h1, h2⟩ := List.getElem?_eq_some_iff.1 hy
        rw [← h2]; exact (List.getElem_cons_drop h1).symm
      have hr := HR.out.below hI.out
      obtain ⟨b, off, rfl⟩ := hr.some_ (by have := HL.out; omega)
      have k0 := hr.at_ (j := 0) hy (u := .int .i64 x.at_) rfl
      rw [Nat.add_zero] at k0
      have k1 := hr.at_ (j := 1) hy (u := inU x.sg) rfl
      have k2 := hr.at_ (j := 2) hy (u := .int .i64 x.fr) rfl
      have k3 := hr.at_ (j := 3) hy (u := .int .i64 x.n) rfl
      have k4 := hr.at_ (j := 4) hy (u := .bool x.wr) rfl
      unfold inU at k1
      have hP1 : wr.cell? ⟨P, 0, none⟩ = some (.int .i64 n) := by rw [hI.out.cell (p := ⟨P, 0, none⟩) HP.out.2]; exact HP.out.1
      have C := Lib.hid (isms_any x hn hP1)
      have l1 : (k : Int) < l := by omega
      have i1 : IntKind.i64.wrap ((k : Int) + 1) = ((k + 1 : Nat) : Int) := by rw [IntKind.wrap_i64]; omega
      have HX := Lib.hid (show (xs.any fun x => decide (n < x.sg)) = (decide (n < x.sg) || ((xs.drop (k + 1)).any fun x => decide (n < x.sg))) by rw [hx.out, hd]; rfl)
      have HG := Lib.hid (And.intro hg hlt)
      obtain ⟨bw, ebw⟩ : ∃ bw, decide (n < x.sg) = bw := ⟨_, rfl⟩
      rw [ebw] at C HX
      clear hy hP1 hd hr hx hg hlt ebw
      cases bw
      · go_wp2_with fail
        refine C.out.mono ?_; rintro e w1 ⟨rfl, hb1⟩
        have HB := Lib.hid (hI.out.trans (hb1.mono hI.out.size))
        clear hb1 hI
        go_wp2_with fail
        go_roundg (l - (k + 1))
        case rel => exact ⟨k + 1, HG.out.2, Nat.le_refl _, by first | rfl | simp, Lib.hid (by rw [HX.out]; rfl), HB⟩
        case measure => have := HG.out; omega
      · go_wp2_with fail
        refine C.out.mono ?_; rintro e w1 ⟨rfl, hb1⟩
        have HB := Lib.hid (hI.out.trans (hb1.mono hI.out.size))
        clear hb1 hI
        go_wp2_with fail
        go_ret
        exact ⟨_, rfl, by rw [HX.out, decide_eq_true (by omega)]; rfl, HB.out⟩
    · have l1 : ¬ (k : Int) < l := by omega
      have HX := Lib.hid (show (xs.any fun x => decide (n < x.sg)) = false by rw [hx.out, List.drop_eq_nil_of_le (by have := HL.out; omega)]; rfl)
      clear hx hg hlt
      go_wp2_with fail
      go_ret
      exact ⟨_, rfl, by rw [HX.out]; rfl, hI.out⟩
set_option maxHeartbeats 1000000 in
theorem mcont_any {w : World} {A : Option Addr} {l c P n : Nat} {xs : List Mp} (hl : xs.length = l) (hm : l ≤ 100000) (hn : n ≤ 100000) (hr : LV 5 encM w A xs) (hP : w.cell? ⟨P, 0, none⟩ = some (.int .i64 n)) :
    Calls Try.prog 68 #[.slice A l c, .func (.func 69) #[] #[.pointer (some ⟨P, 0, none⟩)]] w (BB w (xs.any fun x => decide (n < x.sg))) := by
  have C := Lib.hid (mindex_any (c := c) hl hm hn hr hP)
  clear hl hr hP
  go_enter Try.func68, Try.ntmps68
  go_wp2_with fail
  refine C.out.mono ?_; rintro e w1 ⟨r, rfl, hq, hb1⟩
  have HB := Lib.hid hb1
  have HQ := Lib.hid hq
  clear hb1 C hq
  by_cases h : 0 ≤ r
  · have h1 : r ≥ 0 := h
    have HX := Lib.hid (HQ.out.symm.trans (decide_eq_true h))
    go_wp2_with fail
    go_ret
    exact ⟨by first | exact ret_b HX.out | exact ret_b HQ.out.symm, HB.out⟩
  · have h1 : ¬ r ≥ 0 := h
    have HX := Lib.hid (HQ.out.symm.trans (decide_eq_false h))
    go_wp2_with fail
    go_ret
    exact ⟨by first | exact ret_b HX.out | exact ret_b HQ.out.symm, HB.out⟩
set_option maxHeartbeats 1000000 in
theorem rmaps_any {w : World} {A : Option Addr} {l c n : Nat} {xs : List Mp} (hl : xs.length = l) (hm : l ≤ 100000) (hn : n ≤ 100000) (ho : ∀ x ∈ xs, x.Ok) (hr : LV 5 encM w A xs) :
    Calls Try.prog 56 #[.slice A l c, .int .i64 (n : Int)] w (BB w (mapsB n xs)) := by
  have HR := Lib.hid (And.intro hl (And.intro hm (And.intro hn hr)))
  obtain ⟨w0, e0⟩ : ∃ w0, w.alloc (Obj.cells #[.int .i64 (n : Int)] 3) = w0 := ⟨_, rfl⟩
  have HB := Lib.hid (show Below w.heap.size w w0 by rw [← e0]; exact below_alloc1 _ _)
  have hP0 : w0.heap[w.heap.size]? = some (Obj.cells #[.int .i64 (n : Int)] 3) := by rw [← e0]; exact heap_alloc_new w _
  have HP := Lib.hid hP0
  have C1 := Lib.hid (mright_any (cp := c) hl hm ho (hr.below HB.out))
  have HX := Lib.hid (mapsB_eq n xs)
  obtain ⟨b1, hb1⟩ : ∃ b1, mpsR xs = b1 := ⟨_, rfl⟩
  obtain ⟨b2, hb2⟩ : ∃ b2, (xs.any fun x => decide (n < x.sg)) = b2 := ⟨_, rfl⟩
  have H2 := Lib.hid hb2
  rw [hb1] at C1
  rw [hb1, hb2] at HX
  clear hl hr hP0 hb1 hb2
  go_enter Try.func56, Try.ntmps56
  go_upto_region 1 with fail
  try rw [e0]
  clear e0
  go_wp2_with fail
  refine C1.out.mono ?_; rintro e w1 ⟨rfl, hb1⟩
  have HB1 := Lib.hid (HB.out.trans (hb1.mono HB.out.size))
  have hP1 : w1.cell? ⟨w.heap.size, 0, none⟩ = some (.int .i64 n) := by
    rw [cell_of_row _ _ _ _ _ (0, 0) ((hb1.block _ (Array.getElem?_eq_some_iff.1 HP.out).1).trans HP.out)]; rfl
  have C2 := Lib.hid (mcont_any (c := c) HR.out.1 HR.out.2.1 HR.out.2.2.1 (HR.out.2.2.2.below HB1.out) hP1)
  rw [H2.out] at C2
  clear hb1 C1 HB hP1
  cases b1
  · go_wp2_with fail
    go_ret
    exact ⟨ret_b HX.out, HB1.out⟩
  · go_wp2_with fail
    refine C2.out.mono ?_; rintro e w2 ⟨rfl, hb2⟩
    have HB2 := Lib.hid (HB1.out.trans (hb2.mono HB1.out.size))
    clear hb2 C2 HB1
    go_wp2_with fail
    go_ret
    exact ⟨ret_b HX.out, HB2.out⟩
end Go.Proofs.Ytmadldgajjgbmaa
