import Derived.Test.YtkpdgjmeeeddhaaKd
set_option linter.unusedVariables false
set_option linter.unusedSimpArgs false
namespace Go.Proofs.Ytkpdgjmeeeddhaa
open Go.RowKit
set_option linter.unusedVariables false
set_option linter.unusedSimpArgs false

/-- A new reader. -/
def News (W : World) (bs : List Nat) (e : Ending) (w' : World) : Prop := ∃ R, e = .returned (.pointer (some ⟨R, 0, none⟩)) ∧ W.heap.size ≤ R ∧ Rd w' R bs false ∧ Below W.heap.size W w'
set_option maxHeartbeats 1000000 in
theorem new_any (A : Option Addr) (c n : Nat) (bs : List Nat) (w : World) (hn : bs.length = n) (hm : n ≤ 140737488351232) (hr : BR w A bs) (hA : A = none → c = 0) (hb : ∀ x ∈ bs, x < 256) :
    Calls Try.prog 31 #[.slice A n c] w (News w bs) := by
  have C := Lib.hid (clone_any A c n bs w hn hm hr hA)
  have HN := Lib.hid hn
  have HB := Lib.hid hb
  clear hn hr hA hb
  go_enter Try.func31, Try.ntmps31
  go_wp2_with fail
  refine C.out.mono ?_
  rintro e w1 ⟨v, rfl, h1, h2⟩
  obtain ⟨A', c', rfl, h3, h4, h6⟩ := h1.form
  have hl := HN.out
  have H2 := Lib.hid h2
  have H3 := Lib.hid h3
  have H4 := Lib.hid h4
  have H6 := Lib.hid h6
  clear h1 h2 h3 h4 h6
  rw [hl] at H3 ⊢
  have HR : Hid (Rd (w1.alloc (Obj.cells #[.slice A' n c', .bool false] 75)) w1.heap.size bs false) := by
    refine ⟨A', c', ?_, by rw [hl]; exact H3.out, by rw [hl]; exact hm, H4.out.kept fun b cs hh => ?_, HB.out, H6.out⟩
    · rw [hl]; exact heap_alloc_new w1 _
    · rw [Below.heap_alloc _ _ _ (Array.getElem?_eq_some_iff.1 hh).1]; exact hh
  clear hl
  go_wp2_with fail
  go_ret
  exact ⟨_, rfl, H2.out.size, HR.out, H2.out.alloc H2.out.size _⟩
/-- What a reader's Take answers. -/
def Took (W : World) (R : Nat) (ts : List Nat) (bs : List Nat) (bad : Bool) (e : Ending) (w' : World) : Prop := ∃ A c, e = .returned (.slice A ts.length c) ∧ ts.length ≤ c ∧ YR w' A ts ∧ Rd w' R bs bad ∧ W.grownBy w' (some R)
set_option maxHeartbeats 1000000 in
theorem take_bad (R : Nat) (bs : List Nat) (n : Int) (w : World) (h : Rd w R bs true) : Calls Try.prog 38 #[.pointer (some ⟨R, 0, none⟩), .int .i64 n] w (Took w R [] bs true) := by
  have C := Lib.hid (bad_any R bs true w h)
  have H := Lib.hid h
  clear h
  go_enter Try.func38, Try.ntmps38
  go_wp2_with fail
  refine C.out.mono ?_
  rintro e w1 ⟨rfl, rfl⟩
  go_wp2_with fail
  go_ret
  exact ⟨none, 0, rfl, Nat.le_refl _, fun i x hi => by simp at hi, H.out, World.grownBy.refl _ _⟩
set_option maxHeartbeats 1000000 in
theorem take_out (R : Nat) (bs : List Nat) (n : Int) (w : World) (h : Rd w R bs false) (hn : n < 0 ∨ bs.length < n) : Calls Try.prog 38 #[.pointer (some ⟨R, 0, none⟩), .int .i64 n] w (Took w R [] bs true) := by
  have C := Lib.hid (bad_any R bs false w h)
  have C2 := Lib.hid (fail_any R bs false w h)
  obtain ⟨A, c, h1, c0, c1, f0, f1, h2, h3, h4, h5, h6⟩ := h.cells
  obtain ⟨k, ek⟩ : ∃ k, bs.length = k := ⟨_, rfl⟩
  rw [ek] at h1 c0 h2 h3 hn
  clear h1 h4 h5 h6 h ek
  by_cases h0 : n < 0
  all_goals
    try have t1 : (k : Int) < n := by omega
    clear hn
    go_enter Try.func38, Try.ntmps38
    go_wp2_with fail
    refine C.out.mono ?_
    rintro e w1 ⟨rfl, rfl⟩
    go_wp2_with fail
    refine C2.out.mono ?_
    rintro e w1 ⟨rfl, hr, hg⟩
    have HR := Lib.hid hr
    have HG := Lib.hid hg
    clear hr hg c0 c1 f0 f1
    go_wp2_with fail
    go_ret
    exact ⟨none, 0, rfl, Nat.le_refl _, fun i x hi => by simp at hi, HR.out, HG.out⟩
set_option maxHeartbeats 1000000 in
theorem take_in (R : Nat) (bs : List Nat) (k : Nat) (w : World) (h : Rd w R bs false) (hk : k ≤ bs.length) : Calls Try.prog 38 #[.pointer (some ⟨R, 0, none⟩), .int .i64 k] w (Took w R (bs.take k) (bs.drop k) false) := by
  have C := Lib.hid (bad_any R bs false w h)
  obtain ⟨A, c, h1, c0, c1, f0, f1, h2, h3, h4, h5, h6⟩ := h.cells
  obtain ⟨m, em⟩ : ∃ m, bs.length = m := ⟨_, rfl⟩
  have CC := Lib.hid (clone_any A c k (bs.take k) w (by simp; omega) (by omega) (h4.take k).br h6)
  have HC := Lib.hid (fun (w' : World) (h1 : w'.heap[R]? = some (Obj.cells #[.slice A bs.length c, .bool false] 75)) (h4 : YR w' A bs) => Rd.cut h1 h2 h3 h4 h5 h6 hk)
  have H := Lib.hid h
  have H1 := Lib.hid h1
  have H4 := Lib.hid h4
  rw [em] at c0 h2 h3 hk HC H1
  have EM := Lib.hid em
  clear h1 h4 h5 h6 h em
  go_enter Try.func38, Try.ntmps38
  go_wp2_with fail
  refine C.out.mono ?_
  rintro e w1 ⟨rfl, rfl⟩
  go_wp2_with fail
  refine CC.out.mono ?_
  rintro e w1 ⟨v, rfl, hn1, hb1⟩
  have HN := Lib.hid hn1
  have HB := Lib.hid hb1
  have k1 := hb1.block R (Array.getElem?_eq_some_iff.1 H1.out).1
  have K1 := Lib.hid (k1.trans H1.out)
  have KC := Lib.hid (HC.out w1 K1.out (H4.out.kept fun b cs hh => by rw [hb1.block _ (Array.getElem?_eq_some_iff.1 hh).1]; exact hh))
  have KT : ∀ u, w1.setCell ⟨R, 0, none⟩ (.slice (if c = k then A else A.map (·.add k)) (m - k) (c - k)) = u → Took w R (bs.take k) (bs.drop k) false (.returned v) u := fun u eu => by
    subst eu
    obtain ⟨A', c', e1, e2, e3, _⟩ := hn1.form
    refine ⟨A', c', by rw [e1], e2, e3.kept fun b cs hh => ?_, KC.out, grown_trans (grown_below hb1) (grown_set _)⟩
    rw [heap_setCell_other _ _ _ _ (fun e => ?_)]
    · exact hh
    · simp only at e; subst e; rw [K1.out] at hh; simp at hh
  have HT := Lib.hid KT
  have d0 : w1.cell? ⟨R, 0, none⟩ = some (.slice A m c) := by rw [cell_of_row _ _ _ _ 75 (0, 0) K1.out]; rfl
  have d1 : w1.frozen? ⟨R, 0, none⟩ = false := frozen_of_row _ _ 0 _ 75 K1.out
  clear hn1 hb1 k1 c0 c1 f0 f1 KT
  go_wp2_with fail
  · go_ret
    exact HT.out _ (by have hck : c = k := (by assumption); rw [if_pos hck, hck, Nat.sub_self])
  · go_ret
    exact HT.out _ (by have hck : ¬ c = k := (by assumption); rw [if_neg hck])
end Go.Proofs.Ytkpdgjmeeeddhaa

