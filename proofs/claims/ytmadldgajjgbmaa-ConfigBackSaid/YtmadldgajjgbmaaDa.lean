/- config.Right's parts: numbers and slots. -/
import Derived.Test.YtmadldgajjgbmaaCf
set_option linter.unusedVariables false
set_option linter.unusedSimpArgs false
namespace Go.Proofs.Ytmadldgajjgbmaa
open Go.RowKit
set_option linter.unusedVariables false
set_option linter.unusedSimpArgs false
theorem ret_b {b c : Bool} (h : c = b) : Ending.returned (.bool b) = Ending.returned (.bool c) := by rw [h]
theorem within_any (W : World) (n lo hi : Int) : Calls Try.prog 18 #[.int .i64 n, .int .i64 lo, .int .i64 hi] W (BB W (decide (lo ≤ n ∧ n ≤ hi))) := by
  by_cases h1 : lo ≤ n
  · by_cases h2 : n ≤ hi
    · rw [show decide (lo ≤ n ∧ n ≤ hi) = true from decide_eq_true ⟨h1, h2⟩]
      go_enter Try.func18, Try.ntmps18
      go_wp2_with fail
      go_ret
      exact ⟨rfl, Below.refl _ _⟩
    · rw [show decide (lo ≤ n ∧ n ≤ hi) = false from decide_eq_false fun h => h2 h.2]
      go_enter Try.func18, Try.ntmps18
      go_wp2_with fail
      go_ret
      exact ⟨rfl, Below.refl _ _⟩
  · rw [show decide (lo ≤ n ∧ n ≤ hi) = false from decide_eq_false fun h => h1 h.1]
    go_enter Try.func18, Try.ntmps18
    go_wp2_with fail
    go_ret
    exact ⟨rfl, Below.refl _ _⟩
def slc (x : Sl) : Bool := decide (1 ≤ x.tk ∧ x.tk ≤ 16)
def slsR (xs : List Sl) : Bool := decide (1 ≤ xs.length ∧ xs.length ≤ 8) && xs.all slc
def slsB (n : Nat) (xs : List Sl) : Bool := slsR xs && !(xs.any fun x => decide (n < x.ct))
theorem slsB_eq (n : Nat) (xs : List Sl) : slsB n xs = (decide (1 ≤ xs.length ∧ xs.length ≤ 8) && xs.all (slB n)) := by
  have h : ∀ l : List Sl, l.all (slB n) = (l.all slc && !(l.any fun x => decide (n < x.ct))) := by
    intro l
    induction l with
    | nil => rfl
    | cons x r ih =>
      have h1 : slB n x = (slc x && !decide (n < x.ct)) := by
        unfold slB slc
        by_cases a : 1 ≤ x.tk ∧ x.tk ≤ 16
        · by_cases b : n < x.ct
          · rw [decide_eq_true a, decide_eq_true b, decide_eq_false (by omega)]; rfl
          · rw [decide_eq_true a, decide_eq_false b, decide_eq_true (by omega)]; rfl
        · rw [decide_eq_false a, decide_eq_false (by omega)]; rfl
      rw [List.all_cons, List.all_cons, List.any_cons, ih, h1]
      cases slc x <;> cases decide (n < x.ct) <;> cases r.all slc <;> simp
  unfold slsB slsR
  rw [h, Bool.and_assoc]
set_option maxHeartbeats 2000000 in
theorem sright_any {w : World} {A : Option Addr} {n cp : Nat} {xs : List Sl} (hl : xs.length = n) (hb : n ≤ 100000) (hr : LV 2 encSl w A xs) :
    Calls Try.prog 33 #[.slice A n cp] w (BB w (slsR xs)) := by
  by_cases h0 : n < 1
  · have n0 : (n : Int) < 1 := by omega
    have HX := Lib.hid (show slsR xs = false by unfold slsR; rw [hl, decide_eq_false (by omega)]; rfl)
    clear hl hr
    go_enter Try.func33, Try.ntmps33
    go_wp2_with fail
    go_ret
    exact ⟨ret_b HX.out, Below.refl _ _⟩
  have n0 : ¬ (n : Int) < 1 := by omega
  by_cases h8 : 8 < n
  · have n8 : (n : Int) > 8 := by omega
    have n8' : (8 : Int) < n := by omega
    have HX := Lib.hid (show slsR xs = false by unfold slsR; rw [hl, decide_eq_false (by omega)]; rfl)
    clear hl hr
    go_enter Try.func33, Try.ntmps33
    go_wp2_with fail
    go_ret
    exact ⟨ret_b HX.out, Below.refl _ _⟩
  have n8 : ¬ (n : Int) > 8 := by omega
  have n8' : ¬ (8 : Int) < n := by omega
  have HX := Lib.hid (show slsR xs = xs.all slc by unfold slsR; rw [hl, decide_eq_true (by omega)]; rfl)
  have HR := Lib.hid (And.intro hl hr)
  clear hl hr
  rw [HX.out]
  clear HX
  go_enter Try.func33, Try.ntmps33
  go_wp2_with fail
  go_loopg [15] n (fun gh vi wr => ∃ k : Nat, k ≤ n ∧ n - k ≤ gh ∧ vi = .int .i64 k ∧ Hid (xs.all slc = (xs.drop k).all slc ∧ Below w.heap.size w wr))
  case atStart => exact ⟨0, by omega, by omega, rfl, Lib.hid ⟨rfl, Below.refl _ _⟩⟩
  case round =>
    obtain ⟨k, hk, hg, rfl, hI⟩ := hrel
    by_cases hlt : k < n
    · obtain ⟨x, hx⟩ : ∃ x, xs[k]? = some x := ⟨_, List.getElem?_eq_getElem (by rw [HR.out.1]; exact hlt)⟩
      have hd : xs.drop k = x :: xs.drop (k + 1) := by
        obtain ⟨h1, h2⟩ := List.getElem?_eq_some_iff.1 hx
        rw [← h2]; exact (List.getElem_cons_drop h1).symm
      have hr := HR.out.2.below hI.out.2
      obtain ⟨b, off, rfl⟩ := hr.some_ (by have := HR.out.1; omega)
      have k0 := hr.at_ (j := 0) hx (u := inU x.ct) rfl
      rw [Nat.add_zero] at k0
      have k1 := hr.at_ (j := 1) hx (u := .int .i64 x.tk) rfl
      unfold inU at k0
      have i1 : IntKind.i64.wrap ((k : Int) + 1) = ((k + 1 : Nat) : Int) := by rw [IntKind.wrap_i64]; omega
      have l1 : (k : Int) < n := by omega
      have h1 : xs.all slc = (slc x && (xs.drop (k + 1)).all slc) := by rw [hI.out.1, hd]; rfl
      have HB := Lib.hid (hI.out.2.trans ((below_alloc1 wr (Obj.cells #[.int .u64 (x.ct : Int), .int .i64 x.tk] 49)).mono hI.out.2.size))
      have HG := Lib.hid (And.intro hg hlt)
      by_cases t0 : x.tk < 1
      · have HF := Lib.hid (show xs.all slc = false by rw [h1, show slc x = false from decide_eq_false (by omega)]; rfl)
        clear hx hr hd h1 hI hg hlt hk
        go_wp2_with fail
        go_ret
        exact ⟨ret_b HF.out, HB.out⟩
      by_cases t1 : 16 < x.tk
      · have t1' : x.tk > 16 := by omega
        have HF := Lib.hid (show xs.all slc = false by rw [h1, show slc x = false from decide_eq_false (by omega)]; rfl)
        clear hx hr hd h1 hI hg hlt hk
        go_wp2_with fail
        go_ret
        exact ⟨ret_b HF.out, HB.out⟩
      have t1' : ¬ x.tk > 16 := by omega
      have HF := Lib.hid (show xs.all slc = (xs.drop (k + 1)).all slc by rw [h1, show slc x = true from decide_eq_true (by omega)]; rfl)
      clear hx hr hd h1 hI hg hlt
      go_wp2_with fail
      go_roundg (n - (k + 1))
      case rel => exact ⟨k + 1, HG.out.2, Nat.le_refl _, by first | rfl | simp, Lib.hid ⟨HF.out, HB.out⟩⟩
      case measure => have := HG.out; omega
    · have l1 : ¬ (k : Int) < n := by omega
      have HF := Lib.hid (show xs.all slc = true by rw [hI.out.1, List.drop_eq_nil_of_le (by have := HR.out.1; omega)]; rfl)
      have HB := Lib.hid hI.out.2
      clear hI hg hlt
      go_wp2_with fail
      go_ret
      exact ⟨ret_b HF.out, HB.out⟩
theorem isct_any (x : Sl) {w : World} {P n : Nat} (hn : n ≤ 100000) (hP : w.cell? ⟨P, 0, none⟩ = some (.int .i64 n)) :
    Calls Try.prog 35 #[.agg #[.int .u64 (x.ct : Int), .int .i64 x.tk], .pointer (some ⟨P, 0, none⟩)] w (BB w (decide (n < x.ct))) := by
  have hb := Lib.hid (below_alloc1 w (Obj.cells #[.int .u64 (x.ct : Int), .int .i64 x.tk] 49))
  have hlt := World.block_lt_of_cell? w _ hP
  have hP1 : (w.alloc (Obj.cells #[.int .u64 (x.ct : Int), .int .i64 x.tk] 49)).cell? ⟨P, 0, none⟩ = some (.int .i64 n) := by rw [hb.out.cell (p := ⟨P, 0, none⟩) hlt]; exact hP
  have i0 : IntKind.u64.wrap (n : Int) = (n : Int) := by rw [IntKind.wrap_u64]; omega
  by_cases h : n < x.ct
  · have q1 : (x.ct : Int) > n := by omega
    have q2 : (n : Int) < x.ct := by omega
    rw [decide_eq_true h]
    go_enter Try.func35, Try.ntmps35
    go_wp2_with fail
    go_ret
    exact ⟨rfl, hb.out⟩
  · have q1 : ¬ (x.ct : Int) > n := by omega
    have q2 : ¬ (n : Int) < x.ct := by omega
    rw [decide_eq_false h]
    go_enter Try.func35, Try.ntmps35
    go_wp2_with fail
    go_ret
    exact ⟨rfl, hb.out⟩
set_option maxHeartbeats 1000000 in
theorem sindex_any {w : World} {A : Option Addr} {l c P n : Nat} {xs : List Sl} (hl : xs.length = l) (hm : l ≤ 100000) (hn : n ≤ 100000) (hr : LV 2 encSl w A xs) (hP : w.cell? ⟨P, 0, none⟩ = some (.int .i64 n)) :
    Calls Try.prog 50 #[.slice A l c, .func (.func 35) #[] #[.pointer (some ⟨P, 0, none⟩)]] w fun e w' => ∃ r : Int, e = .returned (.int .i64 r) ∧ (decide (0 ≤ r)) = xs.any (fun x => decide (n < x.ct)) ∧ Below w.heap.size w w' := by
  have HR := Lib.hid hr
  have HL := Lib.hid hl
  have HP := Lib.hid (And.intro hP (World.block_lt_of_cell? w _ hP))
  clear hr hl hP
  go_enter Try.func50, Try.ntmps50
  go_wp2_with fail
  go_loopg [8] l (fun gh i wr => ∃ k : Nat, k ≤ l ∧ l - k ≤ gh ∧ i = .int .i64 k ∧ Hid ((xs.any fun x => decide (n < x.ct)) = ((xs.drop k).any fun x => decide (n < x.ct))) ∧ Hid (Below w.heap.size w wr))
  case atStart => exact ⟨0, by omega, by omega, rfl, Lib.hid rfl, Lib.hid (Below.refl _ _)⟩
  case round =>
    obtain ⟨k, hk, hg, rfl, hx, hI⟩ := hrel
    by_cases hlt : k < l
    · obtain ⟨x, hy⟩ : ∃ m, xs[k]? = some m := ⟨_, List.getElem?_eq_getElem (by rw [HL.out]; exact hlt)⟩
      have hd : xs.drop k = x :: xs.drop (k + 1) := by
        obtain ⟨h1, h2⟩ := List.getElem?_eq_some_iff.1 hy
        rw [← h2]; exact (List.getElem_cons_drop h1).symm
      have hr := HR.out.below hI.out
      obtain ⟨b, off, rfl⟩ := hr.some_ (by have := HL.out; omega)
      have k0 := hr.at_ (j := 0) hy (u := inU x.ct) rfl
      rw [Nat.add_zero] at k0
      have k1 := hr.at_ (j := 1) hy (u := .int .i64 x.tk) rfl
      unfold inU at k0
      have hP1 : wr.cell? ⟨P, 0, none⟩ = some (.int .i64 n) := by rw [hI.out.cell (p := ⟨P, 0, none⟩) HP.out.2]; exact HP.out.1
      have C := Lib.hid (isct_any x hn hP1)
      have l1 : (k : Int) < l := by omega
      have i1 : IntKind.i64.wrap ((k : Int) + 1) = ((k + 1 : Nat) : Int) := by rw [IntKind.wrap_i64]; omega
      have HX := Lib.hid (show (xs.any fun x => decide (n < x.ct)) = (decide (n < x.ct) || ((xs.drop (k + 1)).any fun x => decide (n < x.ct))) by rw [hx.out, hd]; rfl)
      have HG := Lib.hid (And.intro hg hlt)
      obtain ⟨bw, ebw⟩ : ∃ bw, decide (n < x.ct) = bw := ⟨_, rfl⟩
      rw [ebw] at C HX
      clear hy hP1 hd hr hx hg hlt ebw
      cases bw
      · go_wp2_with fail
        refine C.out.mono ?_; rintro e w1 ⟨rfl, hb1⟩
        have HB := Lib.hid (hI.out.trans (hb1.mono hI.out.size))
        clear hb1 hI
        go_wp2_with fail
        go_roundg (l - (k + 1))
        case rel => exact ⟨k + 1, HG.out.2, Nat.le_refl _, by first | rfl | simp, Lib.hid (by rw [HX.out]; rfl), HB⟩
        case measure => have := HG.out; omega
      · go_wp2_with fail
        refine C.out.mono ?_; rintro e w1 ⟨rfl, hb1⟩
        have HB := Lib.hid (hI.out.trans (hb1.mono hI.out.size))
        clear hb1 hI
        go_wp2_with fail
        go_ret
        exact ⟨_, rfl, by rw [HX.out, decide_eq_true (by omega)]; rfl, HB.out⟩
    · have l1 : ¬ (k : Int) < l := by omega
      have HX := Lib.hid (show (xs.any fun x => decide (n < x.ct)) = false by rw [hx.out, List.drop_eq_nil_of_le (by have := HL.out; omega)]; rfl)
      clear hx hg hlt
      go_wp2_with fail
      go_ret
      exact ⟨_, rfl, by rw [HX.out]; rfl, hI.out⟩
set_option maxHeartbeats 1000000 in
theorem scont_any {w : World} {A : Option Addr} {l c P n : Nat} {xs : List Sl} (hl : xs.length = l) (hm : l ≤ 100000) (hn : n ≤ 100000) (hr : LV 2 encSl w A xs) (hP : w.cell? ⟨P, 0, none⟩ = some (.int .i64 n)) :
    Calls Try.prog 34 #[.slice A l c, .func (.func 35) #[] #[.pointer (some ⟨P, 0, none⟩)]] w (BB w (xs.any fun x => decide (n < x.ct))) := by
  have C := Lib.hid (sindex_any (c := c) hl hm hn hr hP)
  clear hl hr hP
  go_enter Try.func34, Try.ntmps34
  go_wp2_with fail
  refine C.out.mono ?_; rintro e w1 ⟨r, rfl, hq, hb1⟩
  have HB := Lib.hid hb1
  have HQ := Lib.hid hq
  clear hb1 C hq
  by_cases h : 0 ≤ r
  · have h1 : r ≥ 0 := h
    have HX := Lib.hid (HQ.out.symm.trans (decide_eq_true h))
    go_wp2_with fail
    go_ret
    exact ⟨by first | exact ret_b HX.out | exact ret_b HQ.out.symm, HB.out⟩
  · have h1 : ¬ r ≥ 0 := h
    have HX := Lib.hid (HQ.out.symm.trans (decide_eq_false h))
    go_wp2_with fail
    go_ret
    exact ⟨by first | exact ret_b HX.out | exact ret_b HQ.out.symm, HB.out⟩
set_option maxHeartbeats 1000000 in
theorem rslots_any {w : World} {A : Option Addr} {l c n : Nat} {xs : List Sl} (hl : xs.length = l) (hm : l ≤ 100000) (hn : n ≤ 100000) (hr : LV 2 encSl w A xs) :
    Calls Try.prog 19 #[.slice A l c, .int .i64 (n : Int)] w (BB w (slsB n xs)) := by
  have HR := Lib.hid (And.intro hl (And.intro hm (And.intro hn hr)))
  obtain ⟨w0, e0⟩ : ∃ w0, w.alloc (Obj.cells #[.int .i64 (n : Int)] 3) = w0 := ⟨_, rfl⟩
  have HB := Lib.hid (show Below w.heap.size w w0 by rw [← e0]; exact below_alloc1 _ _)
  have hP0 : w0.heap[w.heap.size]? = some (Obj.cells #[.int .i64 (n : Int)] 3) := by rw [← e0]; exact heap_alloc_new w _
  have HP := Lib.hid hP0
  have C1 := Lib.hid (sright_any (cp := c) hl hm (hr.below HB.out))
  have HX := Lib.hid (show slsB n xs = (slsR xs && !(xs.any fun x => decide (n < x.ct))) from rfl)
  obtain ⟨b1, hb1⟩ : ∃ b1, slsR xs = b1 := ⟨_, rfl⟩
  obtain ⟨b2, hb2⟩ : ∃ b2, (xs.any fun x => decide (n < x.ct)) = b2 := ⟨_, rfl⟩
  have H2 := Lib.hid hb2
  rw [hb1] at C1
  rw [hb1, hb2] at HX
  clear hl hr hP0 hb1 hb2
  go_enter Try.func19, Try.ntmps19
  go_upto_region 1 with fail
  try rw [e0]
  clear e0
  go_wp2_with fail
  refine C1.out.mono ?_; rintro e w1 ⟨rfl, hb1⟩
  have HB1 := Lib.hid (HB.out.trans (hb1.mono HB.out.size))
  have hP1 : w1.cell? ⟨w.heap.size, 0, none⟩ = some (.int .i64 n) := by
    rw [cell_of_row _ _ _ _ _ (0, 0) ((hb1.block _ (Array.getElem?_eq_some_iff.1 HP.out).1).trans HP.out)]; rfl
  have C2 := Lib.hid (scont_any (c := c) HR.out.1 HR.out.2.1 HR.out.2.2.1 (HR.out.2.2.2.below HB1.out) hP1)
  rw [H2.out] at C2
  clear hb1 C1 HB hP1
  cases b1
  · go_wp2_with fail
    go_ret
    exact ⟨ret_b HX.out, HB1.out⟩
  · go_wp2_with fail
    refine C2.out.mono ?_; rintro e w2 ⟨rfl, hb2⟩
    have HB2 := Lib.hid (HB1.out.trans (hb2.mono HB1.out.size))
    clear hb2 C2 HB1
    go_wp2_with fail
    go_ret
    exact ⟨ret_b HX.out, HB2.out⟩
end Go.Proofs.Ytmadldgajjgbmaa
