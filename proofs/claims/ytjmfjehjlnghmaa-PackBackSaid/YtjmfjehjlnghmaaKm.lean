import Derived.Test.YtjmfjehjlnghmaaKi
import Derived.Test.YtjmfjehjlnghmaaKj
import Derived.Test.YtjmfjehjlnghmaaKk
import Derived.Test.YtjmfjehjlnghmaaKl
namespace Go.Proofs.Ytjmfjehjlnghmaa
open Go.RowKit
set_option linter.unusedVariables false
set_option linter.unusedSimpArgs false

theorem NB.at_ {X : Nat} {w : World} {bs : List Nat} {v : Value} (h : NB X w bs v) (hn : 0 < bs.length) : ∃ g cap, v = .slice (some ⟨g, 0, Option.none⟩) bs.length cap ∧ bs.length ≤ cap ∧ YR w (some ⟨g, 0, Option.none⟩) bs := by
  obtain ⟨A, c, rfl, h2, h3, _⟩ := h.form
  obtain ⟨g, cap, e, _⟩ := World.ownsRow.form (show w.ownsRow X 5 1 _ _ _ from h) hn
  injection e with e1 e2 e3
  subst e1
  exact ⟨g, c, rfl, h2, h3⟩
theorem BR.none (w : World) : BR w none [] := fun i x h => by simp at h
set_option maxHeartbeats 2000000 in
theorem fit_any (w : World) : Calls Try.prog 8 #[] w fun e w' => e = .returned (.bool true) ∧ Below w.heap.size w w' := by
  have C0 := Lib.hid (of_any 2 w)
  have C1 := Lib.hid (fun (W : World) => (show Calls Try.prog 9 #[.slice none 0 0, .agg #[.int .i64 2, .slice none 0 0]] W (NBs W [2, 0]) from
    plabel_any none 0 0 [] 2 (.slice none 0 0) [] W rfl (by omega) (BR.none W) (fun _ => rfl) ⟨by omega, by omega, by simp, by simp⟩ (.inl ⟨rfl, rfl⟩)))
  have C2 := Lib.hid (fun (W : World) => (show Calls Try.prog 15 #[.slice none 0 0, .int .i64 2, .int .u64 258] W (NBs W [1, 2]) from
    put_any none 0 0 2 258 [] W rfl (by omega) (BR.none W) (by omega) (by omega) (by omega)))
  go_enter Try.func8, Try.ntmps8
  go_wp2_with fail
  refine C0.out.mono ?_
  rintro e w1 ⟨rfl, hb1⟩
  have HB1 := Lib.hid hb1
  clear hb1
  go_wp2_with fail
  refine (C1.out w1).mono ?_
  rintro e w2 ⟨v, rfl, hn2, hb2⟩
  obtain ⟨A, c, rfl, hc, hy, _⟩ := hn2.form
  obtain ⟨b, off, rfl, hb, x0⟩ := hy.br 0 2 rfl
  rw [Nat.add_zero] at x0
  have x1 : w2.cell? ⟨b, off + 1, none⟩ = some (.int .u8 0) := by
    obtain ⟨b', off', e, _, hx⟩ := hy.br 1 0 rfl
    injection e with e
    injection e with e1 e2
    subst e1 e2
    exact hx
  have HB2 := Lib.hid (HB1.out.trans (hb2.mono HB1.out.size))
  have C3 := Lib.hid (C2.out w2)
  simp only [List.length_cons, List.length_nil, Nat.zero_add, Nat.reduceAdd] at hc ⊢
  clear hn2 hb2 hy hb C0 C1 C2
  go_wp2_with fail
  refine C3.out.mono ?_
  rintro e w3 ⟨u, rfl, hn3, hb3⟩
  obtain ⟨A3, c3, rfl, hc3, hy3, hA3⟩ := hn3.form
  have HB3 := Lib.hid (HB2.out.trans (hb3.mono HB2.out.size))
  have C4 := Lib.hid (new_any A3 c3 2 [1, 2] w3 rfl (by omega) hy3.br hA3 (by simp))
  simp only [List.length_cons, List.length_nil, Nat.zero_add, Nat.reduceAdd] at hc3 ⊢
  clear hn3 hb3 hy3 hA3 C3
  go_wp2_with fail
  refine C4.out.mono ?_
  rintro e w4 ⟨R, rfl, hR, hr4, hb4⟩
  have C5 := Lib.hid (show Calls Try.prog 17 #[.pointer (some ⟨R, 0, none⟩), .int .i64 2] w4 (fun e w' => e = .returned (.int .u64 258) ∧ w4.grownBy w' (some R)) from
    (num_any R [1, 2] false 2 w4 hr4 (by omega) (by omega)).mono fun e w' ⟨h1, _, h3⟩ => ⟨h1, h3⟩)
  have HB4 := Lib.hid (HB3.out.trans (hb4.mono HB3.out.size))
  have HR := Lib.hid (show w.heap.size ≤ R from Nat.le_trans HB3.out.size hR)
  clear hr4 hb4 hR C4
  go_wp2_with fail
  refine C5.out.mono ?_
  rintro e w5 ⟨rfl, hg5⟩
  have HB5 := Lib.hid (below_grown HB4.out hg5 HR.out)
  clear hg5
  go_wp2_with fail
  go_ret
  exact ⟨by first | rfl | simp, HB5.out⟩
end Go.Proofs.Ytjmfjehjlnghmaa
