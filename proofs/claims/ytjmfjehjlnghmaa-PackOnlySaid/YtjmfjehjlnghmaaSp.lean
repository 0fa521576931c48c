import Derived.Test.YtjmfjehjlnghmaaSo
namespace Go.Proofs.Ytjmfjehjlnghmaa
open Go.RowKit
set_option linter.unusedVariables false
set_option linter.unusedSimpArgs false

theorem seed_empty (S : Int) (a0 : Option Addr) (c0 : Nat) (w : World) : Calls Try.prog 10 #[.agg #[.int .i64 S, .slice a0 0 c0]] w (SeedIs S [] w) := by
  obtain ⟨D, eD, hD⟩ : ∃ D, S % 4 + 1 = D ∧ 1 ≤ D ∧ D ≤ 4 := ⟨_, rfl, by omega⟩
  have e3 := and3 S
  have hb0 : Below w.heap.size w (((w.alloc (Obj.cells #[.int .i64 S, .slice a0 0 c0] 27)).alloc (Obj.cells #[.int .i64 0, .slice none 0 0] 31)).alloc (Obj.cells #[.int .i64 D, .slice none 0 0] 31)) := (((Below.refl _ _).alloc (Nat.le_refl _) _).alloc (by simp) _).alloc (by simp <;> omega) _
  have hx : (((w.alloc (Obj.cells #[.int .i64 S, .slice a0 0 c0] 27)).alloc (Obj.cells #[.int .i64 0, .slice none 0 0] 31)).alloc (Obj.cells #[.int .i64 D, .slice none 0 0] 31)).heap.size = w.heap.size + 3 ∧
      (((w.alloc (Obj.cells #[.int .i64 S, .slice a0 0 c0] 27)).alloc (Obj.cells #[.int .i64 0, .slice none 0 0] 31)).alloc (Obj.cells #[.int .i64 D, .slice none 0 0] 31)).heap[w.heap.size + 1]? = some (Obj.cells #[.int .i64 0, .slice none 0 0] 31) ∧
      (((w.alloc (Obj.cells #[.int .i64 S, .slice a0 0 c0] 27)).alloc (Obj.cells #[.int .i64 0, .slice none 0 0] 31)).alloc (Obj.cells #[.int .i64 D, .slice none 0 0] 31)).heap[w.heap.size + 1 + 1]? = some (Obj.cells #[.int .i64 D, .slice none 0 0] 31) := by
    refine ⟨by simp, ?_, ?_⟩
    · rw [Below.heap_alloc _ _ _ (by simp)]
      have := heap_alloc_new (w.alloc (Obj.cells #[.int .i64 S, .slice a0 0 c0] 27)) (Obj.cells #[.int .i64 0, .slice none 0 0] 31); simpa using this
    · have := heap_alloc_new ((w.alloc (Obj.cells #[.int .i64 S, .slice a0 0 c0] 27)).alloc (Obj.cells #[.int .i64 0, .slice none 0 0] 31)) (Obj.cells #[.int .i64 D, .slice none 0 0] 31); simpa using this
  obtain ⟨W0, e0⟩ : ∃ W0, W0 = ((w.alloc (Obj.cells #[.int .i64 S, .slice a0 0 c0] 27)).alloc (Obj.cells #[.int .i64 0, .slice none 0 0] 31)).alloc (Obj.cells #[.int .i64 D, .slice none 0 0] 31) := ⟨_, rfl⟩
  rw [← e0] at hb0 hx
  obtain ⟨hs, x0, x1⟩ := hx
  obtain ⟨cc0, _, _, _, _, cc1⟩ := old2 W0 _ 31 _ _ (.int .i64 D) (.slice none 0 0) x1
  obtain ⟨s0, s1, s2, s3, s4, _⟩ := old2 W0 (w.heap.size + 1) 31 _ _ (.int .i64 D) (.slice none 0 0) x0
  have hB : Below w.heap.size w ((W0.setCell ⟨w.heap.size + 1, 0, none⟩ (.int .i64 D)).setCell ⟨w.heap.size + 1, 1, none⟩ (.slice none 0 0)) := (hb0.setCell (by simp <;> omega) _).setCell (by simp <;> omega) _
  have hfine : Lab.Fine D [] := ⟨Lab.ok_nil D, hD.1, hD.2, by simp, by simp⟩
  have hsi : SeedIs S [] w (.returned (.agg #[.int .i64 D, .slice none 0 0])) ((W0.setCell ⟨w.heap.size + 1, 0, none⟩ (.int .i64 D)).setCell ⟨w.heap.size + 1, 1, none⟩ (.slice none 0 0)) := by
    have d1 : Lab.seedD S = D := eD
    have d2 : Lab.seedP S [] = [] := rfl
    unfold SeedIs
    rw [d1, d2]
    exact ⟨_, rfl, hfine, World.ownsRow_nil _ _ _ _, hB⟩
  have G := Lib.hid hsi
  have S4 := Lib.hid s4
  clear s4 hB hfine hb0 x0 x1 hD hs hsi
  go_enter Try.func10, Try.ntmps10
  go_wp2_with fail
  rw [← e0]
  clear e0 e3 eD
  go_loopg [14] 0 (fun g i wr => i = .int .i64 0 ∧ wr = W0)
  case atStart => exact ⟨rfl, rfl⟩
  case round =>
    obtain ⟨rfl, rfl⟩ := hrel
    go_wp2_with fail
    refine bodyPost_ret (results_cell_row (by rfl) _ _ (w.heap.size + 1) 31 _ (0, 0) _ (by rfl) S4.out Try.underlying31 rfl info24) rfl G.out
/-- A slice of whole numbers, as an argument has it. -/
def Ints (w : World) (v : Value) : Prop := (∃ a c, v = .slice a 0 c) ∨ ∃ b off cap n, ∃ ls : List Int, v = .slice (some ⟨b, off, none⟩) n cap ∧ ls.length = n ∧ n ≤ 140737488351232 ∧ b < w.heap.size ∧ ∀ i x, ls[i]? = some x → w.cell? ⟨b, off + i, none⟩ = some (.int .i64 x)
theorem Ints.below {w w' : World} {v : Value} (h : Ints w v) (hb : Below w.heap.size w w') : Ints w' v := by
  rcases h with h | ⟨b, off, cap, n, ls, h1, h2, h3, h4, h5⟩
  · exact .inl h
  · exact .inr ⟨b, off, cap, n, ls, h1, h2, h3, Nat.lt_of_lt_of_le h4 hb.size, fun i x hx => by rw [hb.cell (p := ⟨b, _, none⟩) h4]; exact h5 i x hx⟩
/-- The same, the numbers named. -/
def IntsL (w : World) (v : Value) (ls : List Int) : Prop := ((∃ a c, v = .slice a 0 c) ∧ ls = []) ∨ ∃ b off cap n, v = .slice (some ⟨b, off, none⟩) n cap ∧ ls.length = n ∧ n ≤ 140737488351232 ∧ b < w.heap.size ∧ ∀ i x, ls[i]? = some x → w.cell? ⟨b, off + i, none⟩ = some (.int .i64 x)
theorem IntsL.below {w w' : World} {v : Value} {ls : List Int} (h : IntsL w v ls) (hb : Below w.heap.size w w') : IntsL w' v ls := by
  rcases h with h | ⟨b, off, cap, n, h1, h2, h3, h4, h5⟩
  · exact .inl h
  · exact .inr ⟨b, off, cap, n, h1, h2, h3, Nat.lt_of_lt_of_le h4 hb.size, fun i x hx => by rw [hb.cell (p := ⟨b, _, none⟩) h4]; exact h5 i x hx⟩
theorem Ints.named {w : World} {v : Value} (h : Ints w v) : ∃ ls, IntsL w v ls := by
  rcases h with h | ⟨b, off, cap, n, ls, h1⟩
  · exact ⟨[], .inl ⟨h, rfl⟩⟩
  · exact ⟨ls, .inr ⟨b, off, cap, n, h1⟩⟩
/-- A seed's label: which one it is. -/
theorem seed_is (S : Int) (v : Value) (ls : List Int) (w : World) (h : IntsL w v ls) : Calls Try.prog 10 #[.agg #[.int .i64 S, v]] w (SeedIs S ls w) := by
  rcases h with ⟨⟨a, c, rfl⟩, rfl⟩ | ⟨b, off, cap, n, rfl, h2, h3, h4, h5⟩
  · exact seed_empty S a c w
  · exact seed_some S b off cap n ls w h2 h3 h4 h5
theorem seed_any (S : Int) (v : Value) (w : World) (h : Ints w v) : Calls Try.prog 10 #[.agg #[.int .i64 S, v]] w (Seeds w) := by
  obtain ⟨ls, h⟩ := h.named
  exact (seed_is S v ls w h).mono fun e w' ⟨u, h1, h2, h3, h4⟩ => ⟨u, _, _, h1, h2, h3, h4⟩
end Go.Proofs.Ytjmfjehjlnghmaa
