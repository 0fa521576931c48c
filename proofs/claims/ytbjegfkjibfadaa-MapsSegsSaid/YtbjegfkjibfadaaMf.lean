/- Add's ends one by one; the laws' own example. -/
import Derived.Test.YtbjegfkjibfadaaMe
set_option linter.unusedVariables false
set_option linter.unusedSimpArgs false
namespace Go.Proofs.Ytbjegfkjibfadaa
open Go.RowKit
set_option linter.unusedVariables false
set_option linter.unusedSimpArgs false
section
variable {w : World} {A : Option Addr} {l c : Nat} {us : List Mp}
theorem add_bad (m : Mp) (hl : us.length = l) (hm : l ≤ 16) (hc : l ≤ c) (hcm : c ≤ maxLen) (hr : LV 5 encM w A us) (hs : Sp us) (h : m.ok = false ∨ ovl us m = true) :
    Calls Try.prog 12 #[.slice A l c, .agg #[.int .i64 m.a, .int .u64 m.s, .int .i64 m.f, .int .i64 m.n, .bool m.w]] w fun e w' => e = .returned (.tuple #[.slice none 0 0, .int .i64 1]) ∧ Below w.heap.size w w' :=
  (add_any m hl hm hc hcm hr hs).mono fun e w' ⟨h1, h2⟩ => by
    rcases h1 with ⟨_, h1⟩ | ⟨k1, k2, _⟩ | ⟨k1, k2, _⟩
    · exact ⟨h1, h2⟩
    · rw [k1, k2] at h; rcases h with h | h <;> cases h
    · rw [k1, k2] at h; rcases h with h | h <;> cases h
theorem add_full (m : Mp) (hl : us.length = l) (hm : l ≤ 16) (hc : l ≤ c) (hcm : c ≤ maxLen) (hr : LV 5 encM w A us) (hs : Sp us) (h : m.ok = true) (ho : ovl us m = false) (h16 : l = 16) :
    Calls Try.prog 12 #[.slice A l c, .agg #[.int .i64 m.a, .int .u64 m.s, .int .i64 m.f, .int .i64 m.n, .bool m.w]] w fun e w' => e = .returned (.tuple #[.slice none 0 0, .int .i64 7]) ∧ Below w.heap.size w w' :=
  (add_any m hl hm hc hcm hr hs).mono fun e w' ⟨h1, h2⟩ => by
    rcases h1 with ⟨h1, _⟩ | ⟨_, _, _, h1⟩ | ⟨_, _, k, _⟩
    · rw [h, ho] at h1; rcases h1 with h1 | h1 <;> cases h1
    · exact ⟨h1, h2⟩
    · omega
theorem add_good (m : Mp) (hl : us.length = l) (hm : l ≤ 16) (hc : l ≤ c) (hcm : c ≤ maxLen) (hr : LV 5 encM w A us) (hs : Sp us) (h : m.ok = true) (ho : ovl us m = false) (h16 : l < 16) :
    Calls Try.prog 12 #[.slice A l c, .agg #[.int .i64 m.a, .int .u64 m.s, .int .i64 m.f, .int .i64 m.n, .bool m.w]] w fun e w' => ∃ v l', e = .returned (.tuple #[v, .int .i64 0]) ∧ RV (fun b => w.heap.size ≤ b) 26 5 encM w' v l' ∧ Sp l' ∧ l'.Perm (m :: us) ∧ Below w.heap.size w w' :=
  (add_any m hl hm hc hcm hr hs).mono fun e w' ⟨h1, h2⟩ => by
    rcases h1 with ⟨h1, _⟩ | ⟨_, _, k, h1⟩ | ⟨_, _, k, v, l', h3, h4, h5, h6⟩
    · rw [h, ho] at h1; rcases h1 with h1 | h1 <;> cases h1
    · omega
    · exact ⟨v, l', h3, h4, h5, h6, h2⟩
end
set_option maxHeartbeats 1000000 in
theorem fit_any (w : World) : Calls Try.prog 8 #[] w fun e w' => e = .returned (.bool true) ∧ Below w.heap.size w w' := by
  have C1 := Lib.hid (add_good (w := w) (A := none) (l := 0) (c := 0) (us := []) ⟨4, 7, 0, 2, false⟩ rfl (by omega) (by omega) (by unfold maxLen; omega) (LV.nil _ _) Sp.nil (by rfl) (by rfl) (by simp))
  go_enter Try.func8, Try.ntmps8
  go_wp2_with fail
  refine C1.out.mono ?_; rintro e w1 ⟨v, l', rfl, hv, hs, hp, hb1⟩
  obtain rfl : l' = [⟨4, 7, 0, 2, false⟩] := List.perm_singleton.1 hp
  obtain ⟨A, c, rfl, hc, hcm, hr⟩ := hv.form
  have C2 := Lib.hid (find_any (c := c) 5 rfl (by simp) hr hs.2)
  have HB := Lib.hid hb1
  have HC := Lib.hid (And.intro hc (And.intro hcm (And.intro hs hr)))
  rw [show fndV (fnd [⟨4, 7, 0, 2, false⟩] 5) = .tuple #[.agg #[.int .i64 4, .int .u64 7, .int .i64 0, .int .i64 2, .bool false], .bool true] from rfl] at C2
  rw [List.length_singleton] at C2
  clear C1 hv hs hp hb1 hc hcm hr
  go_wp2_with fail
  refine C2.out.mono ?_; rintro e w2 ⟨rfl, hb2⟩
  have b3 := below_alloc1 w2 (blkM ⟨4, 7, 0, 2, false⟩)
  have r3 := heap_alloc_new w2 (blkM ⟨4, 7, 0, 2, false⟩)
  obtain ⟨hc, hcm, hs, hr⟩ := HC.out
  have C3 := Lib.hid (add_bad (A := A) (c := c) ⟨5, 7, 0, 1, false⟩ rfl (by simp) hc hcm (hr.below (below_up hb2 b3)) hs (.inr (by rfl)))
  rw [List.length_singleton] at C3
  have HB3 := Lib.hid (below_up (below_up HB.out hb2) b3)
  have R3 := Lib.hid r3
  clear hb2 b3 r3 hc hcm hs hr C2 HC HB
  go_wp2_with fail
  refine C3.out.mono ?_; rintro e w4 ⟨rfl, hb4⟩
  have HB4 := Lib.hid (below_up HB3.out hb4)
  obtain ⟨z0, z1, z2, z3, z4⟩ := (Five.row (m := ⟨4, 7, 0, 2, false⟩) R3.out).below hb4
  simp only [] at z0 z1 z2 z3 z4
  clear hb4 C3 HB3 R3
  go_wp2_with fail
  go_ret
  exact ⟨rfl, HB4.out⟩
end Go.Proofs.Ytbjegfkjibfadaa
