import Derived.Test.YtlkhbbdigljpjaaRh
namespace Go.Proofs.Ytlkhbbdigljpjaa
open Go.RowKit
set_option linter.unusedVariables false
set_option linter.unusedSimpArgs false

theorem make_zero (v1 v2 : Value) (D : Int) (w : World) (h : v1 = .slice none 0 0 ∨ ∃ b o c, v1 = .slice (some ⟨b, o, none⟩) 0 c) :
    Calls Try.prog 42 #[.int .i64 D, v1, v2] w fun e w' =>
      ∃ v, e = .returned (.agg #[.int .i64 D, v]) ∧ w'.ownsRow w.heap.size 47 2 v 0 [] ∧ Below w.heap.size w w' := by
  have hblk : ((w.alloc (Obj.cells #[.int .i64 D, .slice none 0 0] 24)).alloc (Obj.cells #[.int .i64 D, .slice none 0 0] 24)).heap[w.heap.size]? = some (.cells #[.int .i64 D, .slice none 0 0] 24) := by
    rw [Below.heap_alloc _ _ _ (by simp)]; exact heap_alloc_new w _
  have HB := Lib.hid hblk
  clear hblk
  rcases h with rfl | ⟨b, o, c, rfl⟩
  · go_enter Try.func42, Try.ntmps42
    go_wp2
    go_loop [8] (fun i => i = .int .i64 0) (fun i => 0)
    case atStart => rfl
    case round =>
      subst hrel
      go_wp2
      exact bodyPost_ret (results_cell_row (by rfl) _ _ w.heap.size 24 _ (0, 0) _ (by rfl) HB.out Try.underlying24 rfl info24) rfl ⟨_, rfl, World.ownsRow_nil _ _ _ _, ((Below.refl _ _).alloc (Nat.le_refl _) _).alloc (by simp) _⟩
  · go_enter Try.func42, Try.ntmps42
    go_wp2
    go_loop [8] (fun i => i = .int .i64 0) (fun i => 0)
    case atStart => rfl
    case round =>
      subst hrel
      go_wp2
      exact bodyPost_ret (results_cell_row (by rfl) _ _ w.heap.size 24 _ (0, 0) _ (by rfl) HB.out Try.underlying24 rfl info24) rfl ⟨_, rfl, World.ownsRow_nil _ _ _ _, ((Below.refl _ _).alloc (Nat.le_refl _) _).alloc (by simp) _⟩
theorem make_any (v1 v2 : Value) (cs : List Nat) (ls : List Int) (D : Int) (w : World) (hl : ls.length = cs.length) (hn : cs.length ≤ 8796093022207) (h1 : ReadsV w v1 (U cs)) (h2 : ReadsV w v2 (V ls)) :
    Calls Try.prog 42 #[.int .i64 D, v1, v2] w fun e w' =>
      ∃ v, e = .returned (.agg #[.int .i64 D, v]) ∧ w'.ownsRow w.heap.size 47 2 v (Lab.make D cs ls).length (F (Lab.make D cs ls)) ∧ Below w.heap.size w w' := by
  have hU : (U cs).length = cs.length := by simp [U]
  have hV : (V ls).length = cs.length := by simp [V, hl]
  by_cases h0 : cs.length = 0
  · have hc : cs = [] := List.eq_nil_of_length_eq_zero h0
    have hm : Lab.make D cs ls = [] := by rw [hc]; simp [Lab.make]
    rw [hm]
    refine make_zero v1 v2 D w ?_
    rcases h1 with ⟨rfl, _⟩ | ⟨b, o, c, rfl, _⟩
    · exact .inl rfl
    · rw [hU, h0]; exact .inr ⟨b, o, c, rfl⟩
  · rcases h1 with ⟨_, h⟩ | ⟨b1, o1, c1, rfl, hb1, _, hc1⟩
    · rw [h] at hU; simp at hU; omega
    · rcases h2 with ⟨_, h⟩ | ⟨b2, o2, c2, rfl, hb2, _, hc2⟩
      · rw [h] at hV; simp at hV; omega
      · rw [hU, hV]
        exact make_some b1 o1 c1 b2 o2 c2 cs ls D w hl hn hb1 hb2 hc1 hc2
end Go.Proofs.Ytlkhbbdigljpjaa
