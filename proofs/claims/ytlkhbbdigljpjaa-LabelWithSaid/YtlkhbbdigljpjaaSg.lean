import Derived.Test.YtlkhbbdigljpjaaSf
namespace Go.Proofs.Ytlkhbbdigljpjaa
open Go.RowKit
set_option linter.unusedVariables false
set_option linter.unusedSimpArgs false

theorem leq_gt (D E : Int) (v1 v2 : Value) (w : World) (hde : ¬ D ≤ E) :
    Calls Try.prog 31 #[.agg #[.int .i64 D, v1], .agg #[.int .i64 E, v2]] w fun e w' => e = .returned (.bool false) ∧ Below w.heap.size w w' := by
  have hde' : E < D := by omega
  clear hde
  have hB : Below w.heap.size w (((w.alloc (Obj.cells #[.int .i64 D, v1] 24)).alloc (Obj.cells #[.int .i64 E, v2] 24)).alloc (Obj.cells #[.bool false] 4)) := (((Below.refl _ _).alloc (Nat.le_refl _) _).alloc (by simp) _).alloc (by simp <;> omega) _
  have hk : (((w.alloc (Obj.cells #[.int .i64 D, v1] 24)).alloc (Obj.cells #[.int .i64 E, v2] 24)).alloc (Obj.cells #[.bool false] 4)).heap[w.heap.size + 1 + 1]? = some (Obj.cells #[.bool false] 4) := by
    have := heap_alloc_new ((w.alloc (Obj.cells #[.int .i64 D, v1] 24)).alloc (Obj.cells #[.int .i64 E, v2] 24)) (Obj.cells #[.bool false] 4)
    simpa using this
  obtain ⟨W3, e3⟩ : ∃ W3, W3 = ((w.alloc (Obj.cells #[.int .i64 D, v1] 24)).alloc (Obj.cells #[.int .i64 E, v2] 24)).alloc (Obj.cells #[.bool false] 4) := ⟨_, rfl⟩
  rw [← e3] at hB hk
  have c0 : W3.cell? ⟨w.heap.size + 1 + 1, 0, none⟩ = some (.bool false) := by rw [cell_of_row _ _ 0 _ 4 (0, 0) hk]; rfl
  have f0 : W3.frozen? ⟨w.heap.size + 1 + 1, 0, none⟩ = false := frozen_of_row _ _ 0 _ 4 hk
  have HB := Lib.hid hB
  have HK := Lib.hid hk
  clear hB hk
  go_enter Try.func31, Try.ntmps31
  go_upto_region 2 with fail
  rw [← e3]
  go_wp2
  refine bodyPost_ret (results_bool (by rfl) _ _ (w.heap.size + 1 + 1) (.bool false) (by rfl) (by rw [← e3]; exact c0)) rfl ⟨rfl, by rw [← e3]; exact HB.out⟩
/-- 'Leq' tells whether each level is at most the other's. -/
theorem pleq_any (D E : Int) (v1 v2 : Value) (ps qs : List (Nat × Int)) (w : World) (o1 : Lab.Ok D ps) (o2 : Lab.Ok E qs) (r1 : RC w.heap.size w v1 ps) (r2 : RC w.heap.size w v2 qs) (r : Bool) (hr : r = true ↔ ∀ c, Lab.at' D ps c ≤ Lab.at' E qs c) :
    Calls Try.prog 31 #[.agg #[.int .i64 D, v1], .agg #[.int .i64 E, v2]] w fun e w' => e = .returned (.bool r) ∧ Below w.heap.size w w' := by
  have hz := Lab.leq_zip o1 o2
  by_cases hde : D ≤ E
  · exact leq_le D E v1 v2 ps qs w hde r1 r2 r ⟨fun h => (hz.2 (hr.1 h)).2, fun h => hr.2 (hz.1 ⟨hde, h⟩)⟩
  · have : r = false := by
      cases r with
      | false => rfl
      | true => exact absurd (hz.2 (hr.1 rfl)).1 hde
    subst this
    exact leq_gt D E v1 v2 w hde
theorem bool_is (p : Prop) : ∃ r : Bool, r = true ↔ p := by
  by_cases h : p
  · exact ⟨true, by simp [h]⟩
  · exact ⟨false, by simp [h]⟩
end Go.Proofs.Ytlkhbbdigljpjaa
