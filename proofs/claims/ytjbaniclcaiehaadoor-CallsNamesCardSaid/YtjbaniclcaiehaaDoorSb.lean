/- CallsNames. -/
import Derived.Test.YtjbaniclcaiehaaDoorSa
set_option linter.unusedVariables false
set_option linter.unusedSimpArgs false
namespace Go.Proofs.YtjbaniclcaiehaaDoor
open Go.RowKit
set_option linter.unusedVariables false
set_option linter.unusedSimpArgs false
set_option maxHeartbeats 4000000 in
set_option maxRecDepth 100000 in
theorem names_all (a b : Nat) (ha : (a : Int) < 18446744073709551616) (hb : (b : Int) < 18446744073709551616) (W : World) (hOf : HOF W) : Calls Tryd.prog 5 #[.int .u64 (a : Int), .int .u64 (b : Int)] W (RB W true) := by
  obtain ⟨p, ep, hp⟩ : ∃ p : Nat, ((a : Int)).tmod 40 = (p : Int) ∧ p < 40 := ⟨a % 40, by rw [Int.tmod_eq_emod_of_nonneg (by omega)]; omega, by omega⟩
  obtain ⟨q, eq, hq⟩ : ∃ p : Nat, ((b : Int)).tmod 40 = (p : Int) ∧ p < 40 := ⟨b % 40, by rw [Int.tmod_eq_emod_of_nonneg (by omega)]; omega, by omega⟩
  have i1 : IntKind.u64.wrap (p : Int) = (p : Int) := by rw [IntKind.wrap_u64]; omega
  have i2 : IntKind.u64.wrap (q : Int) = (q : Int) := by rw [IntKind.wrap_u64]; omega
  have i3 : IntKind.u64.wrap ((p : Int) + 1) = ((p + 1 : Nat) : Int) := by rw [IntKind.wrap_u64]; omega
  have i4 : IntKind.u64.wrap ((q : Int) + 1) = ((q + 1 : Nat) : Int) := by rw [IntKind.wrap_u64]; omega
  have HP := Lib.hid (show (1 ≤ p + 1 ∧ p + 1 ≤ 40) ∧ (1 ≤ q + 1 ∧ q + 1 ≤ 40) by omega)
  obtain ⟨k1, ek1⟩ : ∃ k, p + 1 = k := ⟨_, rfl⟩
  obtain ⟨k2, ek2⟩ : ∃ k, q + 1 = k := ⟨_, rfl⟩
  rw [ek1] at i3 HP
  rw [ek2] at i4 HP
  have HOf := Lib.hid hOf
  have CF := Lib.hid (fit_any W hOf)
  clear hOf ha hb hp hq ek1 ek2
  go_enter Tryd.func5, Tryd.ntmps5
  go_wp2_with fail
  refine CF.out.mono ?_; rintro e w1 ⟨rfl, hb⟩
  have HB1 := Lib.hid hb
  have C1 := Lib.hid (HOf.out k1 w1 (by have := HP.out; omega) HB1.out)
  clear hb CF
  go_wp2_with fail
  refine C1.out.mono ?_; rintro e w2 ⟨hb, h⟩
  rw [if_pos HP.out.1] at h
  obtain ⟨a1, c1, a2, c2, rfl, _, _, _, _⟩ := h
  obtain ⟨s1, es1⟩ : ∃ s, S (spO k1).1 = s := ⟨_, rfl⟩
  obtain ⟨m1, em1⟩ : ∃ s, (spO k1).2.1.length = s := ⟨_, rfl⟩
  obtain ⟨m2, em2⟩ : ∃ s, (spO k1).2.2.length = s := ⟨_, rfl⟩
  rw [es1, em1, em2]
  have HS1 := Lib.hid es1
  have HB2 := Lib.hid (HB1.out.trans (hb.mono HB1.out.size))
  clear hb C1 es1 em1 em2 HB1
  go_upto_region 5 with fail
  obtain ⟨X, eX⟩ : ∃ X, w2.heap.size = X := ⟨_, rfl⟩
  obtain ⟨w3, e3⟩ : ∃ w3, w2.alloc (Obj.cells #[.string s1, .slice a1 m1 c1, .slice a2 m2 c2] 29) = w3 := ⟨_, rfl⟩
  have hb3 : Below w2.heap.size w2 w3 := by rw [← e3]; exact below_alloc1 w2 _
  have hX : w3.heap[X]? = some (Obj.cells #[.string s1, .slice a1 m1 c1, .slice a2 m2 c2] 29) := by rw [← e3, ← eX]; exact heap_alloc_new w2 _
  have HX := Lib.hid hX
  have HB3 := Lib.hid (HB2.out.trans (hb3.mono HB2.out.size))
  try rw [e3]
  try rw [eX]
  clear e3 eX hb3 hX HB2
  have C1 := Lib.hid (HOf.out k2 w3 (by have := HP.out; omega) HB3.out)
  go_wp2_with fail
  refine C1.out.mono ?_; rintro e w4 ⟨hb, h⟩
  rw [if_pos HP.out.2] at h
  obtain ⟨b1, d1, b2, d2, rfl, _, _, _, _⟩ := h
  obtain ⟨s2, es2⟩ : ∃ s, S (spO k2).1 = s := ⟨_, rfl⟩
  obtain ⟨n1, en1⟩ : ∃ s, (spO k2).2.1.length = s := ⟨_, rfl⟩
  obtain ⟨n2, en2⟩ : ∃ s, (spO k2).2.2.length = s := ⟨_, rfl⟩
  rw [es2, en1, en2]
  have HS2 := Lib.hid es2
  have HB4 := Lib.hid (HB3.out.trans (hb.mono HB3.out.size))
  have HX4 := Lib.hid ((hb.block _ (Array.getElem?_eq_some_iff.1 HX.out).1).trans HX.out)
  clear hb C1 es2 en1 en2 HB3 HX
  go_upto_region 6 with fail
  obtain ⟨Y, eY⟩ : ∃ X, w4.heap.size = X := ⟨_, rfl⟩
  obtain ⟨w5, e5⟩ : ∃ w3, w4.alloc (Obj.cells #[.string s2, .slice b1 n1 d1, .slice b2 n2 d2] 29) = w3 := ⟨_, rfl⟩
  have hb5 : Below w4.heap.size w4 w5 := by rw [← e5]; exact below_alloc1 w4 _
  have hY : w5.heap[Y]? = some (Obj.cells #[.string s2, .slice b1 n1 d1, .slice b2 n2 d2] 29) := by rw [← e5, ← eY]; exact heap_alloc_new w4 _
  have hX5 := (hb5.block _ (Array.getElem?_eq_some_iff.1 HX4.out).1).trans HX4.out
  have x0 : w5.cell? ⟨X, 0, none⟩ = some (.string s1) := by rw [cell_of_row _ _ _ _ _ (0, 0) hX5]; rfl
  have y0 : w5.cell? ⟨Y, 0, none⟩ = some (.string s2) := by rw [cell_of_row _ _ _ _ _ (0, 0) hY]; rfl
  have HF := Lib.hid (HB4.out.trans (hb5.mono HB4.out.size))
  try rw [e5]
  try rw [eY]
  clear e5 eY hb5 hY hX5 HB4 HX4
  have hne : s1 ≠ ⟨#[]⟩ := fun h => (sp_small HP.out.1.1 HP.out.1.2).2.2.2.2 (S_inj (m := []) (by rw [HS1.out, h]; rfl))
  have q3 : ¬ s1.toList = [] := fun h => hne (by rw [Go.ByteArray.toList_eq] at h; exact ByteArray.ext (Array.toList_inj.1 h))
  have q4 : s1.toList.isEmpty = false := by simpa using q3
  by_cases hk : k1 = k2
  · have e1 : s1 = s2 := by rw [← HS1.out, ← HS2.out, hk]
    have q2 : ((k1 : Int) == (k2 : Int)) = true := by simp [hk]
    subst e1
    clear hk hne
    go_wp2_with fail
    go_ret
    exact ⟨by simp [*], HF.out⟩
  · have e1 : s1 ≠ s2 := fun h => hk ((sp_names HP.out.1 HP.out.2).1 (S_inj (by rw [HS1.out, HS2.out, h])))
    have q1 : ¬ s1.toList = s2.toList := fun h => e1 (by rw [Go.ByteArray.toList_eq, Go.ByteArray.toList_eq] at h; exact ByteArray.ext (Array.toList_inj.1 h))
    have q0 : (s1.toList == s2.toList) = false := by simpa using q1
    have q2 : ((k1 : Int) == (k2 : Int)) = false := by rw [beq_eq_false_iff_ne]; omega
    clear hk e1 hne
    go_wp2_with fail
    go_ret
    exact ⟨by simp [*], HF.out⟩
end Go.Proofs.YtjbaniclcaiehaaDoor
