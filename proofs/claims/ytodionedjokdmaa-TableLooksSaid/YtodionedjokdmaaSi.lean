import Derived.Test.YtodionedjokdmaaSh
namespace Go.Proofs.Ytodionedjokdmaa
open Go.RowKit Go.Shelf
set_option linter.unusedVariables false
set_option linter.unusedSimpArgs false

/-- A label of level M for all but the pairs Z, in memory of the call's own. -/
def Gives (w : World) (M : Int) (Z : List (Nat × Int)) (e : Ending) (w' : World) : Prop := ∃ v, e = .returned (.agg #[.int .i64 M, v]) ∧ w'.ownsRow w.heap.size 101 2 v Z.length (F Z) ∧ Below w.heap.size w w'
theorem form2 {w : World} {base e k : Nat} {v : Value} {xs : List Value} (h : w.ownsRow base e 2 v k xs) : v = .slice none 0 0 ∨ ∃ g n c, v = .slice (some ⟨g, 0, none⟩) n c := by
  rcases h.2 with ⟨h, _⟩ | ⟨g', cap', cur, h, hg, _⟩
  · exact .inl h
  · exact .inr ⟨_, _, _, h⟩
/-- What is stored into the result's own variable is handed on. -/
theorem gives_stored {w W0 w1 : World} {R : Nat} {M : Int} {Z : List (Nat × Int)} {v : Value} (hR : w.heap.size ≤ R) (hR0 : R < W0.heap.size) (hb : Below w.heap.size w W0) (h1 : w1.ownsRow W0.heap.size 101 2 v Z.length (F Z)) (hb1 : Below W0.heap.size W0 w1) :
    ((w1.setCell ⟨R, 0, none⟩ (.int .i64 M)).setCell ⟨R, 1, none⟩ v).ownsRow w.heap.size 101 2 v Z.length (F Z) ∧ Below w.heap.size w ((w1.setCell ⟨R, 0, none⟩ (.int .i64 M)).setCell ⟨R, 1, none⟩ v) := by
  have hne : some R ≠ v.ownBlock := by intro e; have := (h1.lt _ e.symm).1; omega
  exact ⟨owns_mono (owns_set (owns_set h1 _ _ hne) _ _ hne) hb.size, ((hb.trans (hb1.mono hb.size)).setCell (by simp <;> omega) _).setCell (by simp <;> omega) _⟩
theorem picks_turn (B1 B2 : Nat) (a b : Int) (w : World) (h1 : w.heap[B1]? = some (Obj.cells #[.int .i64 a] 3)) (h2 : w.heap[B2]? = some (Obj.cells #[.int .i64 b] 3)) :
    Picks 44 #[.pointer (some ⟨B1, 0, none⟩), .pointer (some ⟨B2, 0, none⟩)] (fun x _ => Lab.turn a b x) w := by
  intro x y W hb
  show Calls Try.prog 44 #[.int .i64 x, .int .i64 y, .pointer (some ⟨B1, 0, none⟩), .pointer (some ⟨B2, 0, none⟩)] W fun e W' => e = .returned (.int .i64 (Lab.turn a b x)) ∧ W' = W
  have k1 : W.heap[B1]? = some (Obj.cells #[.int .i64 a] 3) := by rw [hb.block _ (Array.getElem?_eq_some_iff.1 h1).1]; exact h1
  have k2 : W.heap[B2]? = some (Obj.cells #[.int .i64 b] 3) := by rw [hb.block _ (Array.getElem?_eq_some_iff.1 h2).1]; exact h2
  have c1 : W.cell? ⟨B1, 0, none⟩ = some (.int .i64 a) := by rw [cell_of_row _ _ 0 _ 3 (0, 0) k1]; rfl
  have c2 : W.cell? ⟨B2, 0, none⟩ = some (.int .i64 b) := by rw [cell_of_row _ _ 0 _ 3 (0, 0) k2]; rfl
  obtain ⟨m, em⟩ : ∃ m, Lab.turn a b x = m := ⟨_, rfl⟩
  rw [em]
  have EM := Lib.hid em
  clear em h1 h2 k1 k2 hb
  by_cases e : x = a
  · have tf : (x == a) = true := by rw [beq_iff_eq]; exact e
    have HM := Lib.hid (show m = b by rw [← EM.out, Lab.turn, if_pos e])
    clear e
    go_enter Try.func44, Try.ntmps44
    go_wp2
    go_ret
    exact ⟨by rw [HM.out]; rfl, rfl⟩
  · have tf : (x == a) = false := by rw [beq_eq_false_iff_ne]; exact e
    have HM := Lib.hid (show m = x by rw [← EM.out, Lab.turn, if_neg e])
    clear e
    go_enter Try.func44, Try.ntmps44
    go_wp2
    go_ret
    exact ⟨by rw [HM.out]; rfl, rfl⟩
set_option maxHeartbeats 1000000 in
theorem replace_any (D a b : Int) (v1 : Value) (ps : List (Nat × Int)) (w : World) (hn : ps.length + ps.length ≤ 8796093022207) (r1 : RC w.heap.size w v1 ps) :
    Calls Try.prog 30 #[.agg #[.int .i64 D, v1], .int .i64 a, .int .i64 b] w (Gives w (Lab.turn a b D) (Lab.mk (fun x _ => Lab.turn a b x) (Lab.turn a b D) (Lab.zipm D D ps ps))) := by
  have hb0 : Below w.heap.size w ((((w.alloc (Obj.cells #[.int .i64 D, v1] 44)).alloc (Obj.cells #[.int .i64 a] 3)).alloc (Obj.cells #[.int .i64 b] 3)).alloc (Obj.cells #[.int .i64 0, .slice none 0 0] 44)) := ((((Below.refl _ _).alloc (by exact Nat.le_refl _) _).alloc (by simp <;> omega) _).alloc (by simp <;> omega) _).alloc (by simp <;> omega) _
  have hx : ((((w.alloc (Obj.cells #[.int .i64 D, v1] 44)).alloc (Obj.cells #[.int .i64 a] 3)).alloc (Obj.cells #[.int .i64 b] 3)).alloc (Obj.cells #[.int .i64 0, .slice none 0 0] 44)).heap.size = w.heap.size + 4 ∧ ((((w.alloc (Obj.cells #[.int .i64 D, v1] 44)).alloc (Obj.cells #[.int .i64 a] 3)).alloc (Obj.cells #[.int .i64 b] 3)).alloc (Obj.cells #[.int .i64 0, .slice none 0 0] 44)).heap[w.heap.size]? = some (Obj.cells #[.int .i64 D, v1] 44) ∧ ((((w.alloc (Obj.cells #[.int .i64 D, v1] 44)).alloc (Obj.cells #[.int .i64 a] 3)).alloc (Obj.cells #[.int .i64 b] 3)).alloc (Obj.cells #[.int .i64 0, .slice none 0 0] 44)).heap[w.heap.size + 1]? = some (Obj.cells #[.int .i64 a] 3) ∧ ((((w.alloc (Obj.cells #[.int .i64 D, v1] 44)).alloc (Obj.cells #[.int .i64 a] 3)).alloc (Obj.cells #[.int .i64 b] 3)).alloc (Obj.cells #[.int .i64 0, .slice none 0 0] 44)).heap[w.heap.size + 1 + 1]? = some (Obj.cells #[.int .i64 b] 3) ∧ ((((w.alloc (Obj.cells #[.int .i64 D, v1] 44)).alloc (Obj.cells #[.int .i64 a] 3)).alloc (Obj.cells #[.int .i64 b] 3)).alloc (Obj.cells #[.int .i64 0, .slice none 0 0] 44)).heap[w.heap.size + 1 + 1 + 1]? = some (Obj.cells #[.int .i64 0, .slice none 0 0] 44) := by
    refine ⟨by simp <;> omega, ?_, ?_, ?_, ?_⟩
    · rw [Below.heap_alloc _ _ _ (by simp <;> omega), Below.heap_alloc _ _ _ (by simp <;> omega), Below.heap_alloc _ _ _ (by simp <;> omega)]; have := heap_alloc_new w (Obj.cells #[.int .i64 D, v1] 44); simpa using this
    · rw [Below.heap_alloc _ _ _ (by simp <;> omega), Below.heap_alloc _ _ _ (by simp <;> omega)]; have := heap_alloc_new (w.alloc (Obj.cells #[.int .i64 D, v1] 44)) (Obj.cells #[.int .i64 a] 3); simpa using this
    · rw [Below.heap_alloc _ _ _ (by simp <;> omega)]; have := heap_alloc_new ((w.alloc (Obj.cells #[.int .i64 D, v1] 44)).alloc (Obj.cells #[.int .i64 a] 3)) (Obj.cells #[.int .i64 b] 3); simpa using this
    · have := heap_alloc_new (((w.alloc (Obj.cells #[.int .i64 D, v1] 44)).alloc (Obj.cells #[.int .i64 a] 3)).alloc (Obj.cells #[.int .i64 b] 3)) (Obj.cells #[.int .i64 0, .slice none 0 0] 44); simpa using this
  obtain ⟨W0, e0⟩ : ∃ W0, W0 = ((((w.alloc (Obj.cells #[.int .i64 D, v1] 44)).alloc (Obj.cells #[.int .i64 a] 3)).alloc (Obj.cells #[.int .i64 b] 3)).alloc (Obj.cells #[.int .i64 0, .slice none 0 0] 44)) := ⟨_, rfl⟩
  rw [← e0] at hb0 hx
  obtain ⟨hs, x0, x1, x2, x3⟩ := hx
  have d00 : W0.cell? ⟨w.heap.size, 0, none⟩ = some (.int .i64 D) := by rw [cell_of_row _ _ 0 _ 44 (0, 0) x0]; rfl
  have d01 : W0.cell? ⟨w.heap.size, 1, none⟩ = some (v1) := by rw [cell_of_row _ _ 1 _ 44 (0, 0) x0]; rfl
  have d10 : W0.cell? ⟨w.heap.size + 1, 0, none⟩ = some (.int .i64 a) := by rw [cell_of_row _ _ 0 _ 3 (0, 0) x1]; rfl
  have d20 : W0.cell? ⟨w.heap.size + 1 + 1, 0, none⟩ = some (.int .i64 b) := by rw [cell_of_row _ _ 0 _ 3 (0, 0) x2]; rfl
  obtain ⟨Z, eZ⟩ : ∃ Z, Lab.mk (fun x _ => Lab.turn a b x) (Lab.turn a b D) (Lab.zipm D D ps ps) = Z := ⟨_, rfl⟩
  obtain ⟨M, eM⟩ : ∃ M, Lab.turn a b D = M := ⟨_, rfl⟩
  have C : Hid (Calls Try.prog 43 #[.agg #[.int .i64 D, v1], .agg #[.int .i64 D, v1], .func (.func 44) #[] #[.pointer (some ⟨w.heap.size + 1, 0, none⟩), .pointer (some ⟨w.heap.size + 1 + 1, 0, none⟩)]] W0 (Gives W0 M Z)) := Lib.hid ((pmerge_any 44 #[.pointer (some ⟨w.heap.size + 1, 0, none⟩), .pointer (some ⟨w.heap.size + 1 + 1, 0, none⟩)] (fun x _ => Lab.turn a b x) D D v1 v1 ps ps W0 (enters_of Try.func44 (by kernel_rfl) rfl) (picks_turn _ _ a b W0 x1 x2) hn (r1.below hb0 |>.mono hb0.size) (r1.below hb0 |>.mono hb0.size)).mono fun e w' ⟨v, h1, h2, h3⟩ => ⟨v, by rw [h1, ← eM], h2 Z (by rw [← eZ]), h3⟩)
  clear hn r1
  rw [eZ, eM]
  clear eZ eM
  have XR := Lib.hid x3
  have HB := Lib.hid hb0
  have HS := Lib.hid hs
  clear hs hb0 x0 x1 x2 x3
  go_enter Try.func30, Try.ntmps30
  go_wp2_with fail
  rw [← e0]
  clear e0
  go_wp2_with fail
  refine C.out.mono ?_
  rintro e w1 ⟨v, rfl, hown, hb1⟩
  obtain ⟨s0, s1, s2, s3, s4, _⟩ := old2 w1 (w.heap.size + 1 + 1 + 1) 44 _ _ (.int .i64 M) v (by rw [hb1.block _ (by rw [HS.out]; omega)]; exact XR.out)
  have G := Lib.hid (gives_stored (R := w.heap.size + 1 + 1 + 1) (M := M) (by omega) (by rw [HS.out]; omega) HB.out hown hb1)
  have S4 := Lib.hid s4
  have hform := form2 hown
  clear s4 hown hb1 d00 d01 d10 d20
  rcases hform with rfl | ⟨g', n', c', rfl⟩
  all_goals
    go_wp2_with fail
    refine bodyPost_ret (results_cell_row (by rfl) _ _ (w.heap.size + 1 + 1 + 1) 44 _ (0, 0) _ (by rfl) S4.out Try.underlying44 rfl info24) rfl ⟨_, rfl, G.out⟩
set_option maxHeartbeats 1000000 in
theorem prest_any (D : Int) (v1 : Value) (ps : List (Nat × Int)) (w : World) (hn : ps.length + ps.length ≤ 8796093022207) (r1 : RC w.heap.size w v1 ps) :
    Calls Try.prog 18 #[.agg #[.int .i64 D, v1]] w (Gives w (Lab.turn 0 2 D) (Lab.mk (fun x _ => Lab.turn 0 2 x) (Lab.turn 0 2 D) (Lab.zipm D D ps ps))) := by
  have hb0 : Below w.heap.size w ((w.alloc (Obj.cells #[.int .i64 D, v1] 44)).alloc (Obj.cells #[.int .i64 0, .slice none 0 0] 44)) := ((Below.refl _ _).alloc (by exact Nat.le_refl _) _).alloc (by simp <;> omega) _
  have hx : ((w.alloc (Obj.cells #[.int .i64 D, v1] 44)).alloc (Obj.cells #[.int .i64 0, .slice none 0 0] 44)).heap.size = w.heap.size + 2 ∧ ((w.alloc (Obj.cells #[.int .i64 D, v1] 44)).alloc (Obj.cells #[.int .i64 0, .slice none 0 0] 44)).heap[w.heap.size]? = some (Obj.cells #[.int .i64 D, v1] 44) ∧ ((w.alloc (Obj.cells #[.int .i64 D, v1] 44)).alloc (Obj.cells #[.int .i64 0, .slice none 0 0] 44)).heap[w.heap.size + 1]? = some (Obj.cells #[.int .i64 0, .slice none 0 0] 44) := by
    refine ⟨by simp <;> omega, ?_, ?_⟩
    · rw [Below.heap_alloc _ _ _ (by simp <;> omega)]; have := heap_alloc_new w (Obj.cells #[.int .i64 D, v1] 44); simpa using this
    · have := heap_alloc_new (w.alloc (Obj.cells #[.int .i64 D, v1] 44)) (Obj.cells #[.int .i64 0, .slice none 0 0] 44); simpa using this
  obtain ⟨W0, e0⟩ : ∃ W0, W0 = ((w.alloc (Obj.cells #[.int .i64 D, v1] 44)).alloc (Obj.cells #[.int .i64 0, .slice none 0 0] 44)) := ⟨_, rfl⟩
  rw [← e0] at hb0 hx
  obtain ⟨hs, x0, x1⟩ := hx
  have d00 : W0.cell? ⟨w.heap.size, 0, none⟩ = some (.int .i64 D) := by rw [cell_of_row _ _ 0 _ 44 (0, 0) x0]; rfl
  have d01 : W0.cell? ⟨w.heap.size, 1, none⟩ = some (v1) := by rw [cell_of_row _ _ 1 _ 44 (0, 0) x0]; rfl
  obtain ⟨Z, eZ⟩ : ∃ Z, Lab.mk (fun x _ => Lab.turn 0 2 x) (Lab.turn 0 2 D) (Lab.zipm D D ps ps) = Z := ⟨_, rfl⟩
  obtain ⟨M, eM⟩ : ∃ M, Lab.turn 0 2 D = M := ⟨_, rfl⟩
  have C : Hid (Calls Try.prog 30 #[.agg #[.int .i64 D, v1], .int .i64 0, .int .i64 2] W0 (Gives W0 M Z)) := Lib.hid (by rw [← eM, ← eZ]; exact replace_any D 0 2 v1 ps W0 hn (r1.below hb0 |>.mono hb0.size))
  clear hn r1
  rw [eZ, eM]
  clear eZ eM
  have XR := Lib.hid x1
  have HB := Lib.hid hb0
  have HS := Lib.hid hs
  clear hs hb0 x0 x1
  go_enter Try.func18, Try.ntmps18
  go_wp2_with fail
  rw [← e0]
  clear e0
  go_wp2_with fail
  refine C.out.mono ?_
  rintro e w1 ⟨v, rfl, hown, hb1⟩
  obtain ⟨s0, s1, s2, s3, s4, _⟩ := old2 w1 (w.heap.size + 1) 44 _ _ (.int .i64 M) v (by rw [hb1.block _ (by rw [HS.out]; omega)]; exact XR.out)
  have G := Lib.hid (gives_stored (R := w.heap.size + 1) (M := M) (by omega) (by rw [HS.out]; omega) HB.out hown hb1)
  have S4 := Lib.hid s4
  have hform := form2 hown
  clear s4 hown hb1 d00 d01
  rcases hform with rfl | ⟨g', n', c', rfl⟩
  all_goals
    go_wp2_with fail
    refine bodyPost_ret (results_cell_row (by rfl) _ _ (w.heap.size + 1) 44 _ (0, 0) _ (by rfl) S4.out Try.underlying44 rfl info24) rfl ⟨_, rfl, G.out⟩
end Go.Proofs.Ytodionedjokdmaa
