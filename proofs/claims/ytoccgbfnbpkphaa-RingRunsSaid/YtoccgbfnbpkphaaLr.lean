/- RingRuns: whatever came in. -/
import Derived.Test.YtoccgbfnbpkphaaRt
set_option linter.unusedVariables false
set_option linter.unusedSimpArgs false
namespace Go.Proofs.Ytoccgbfnbpkphaa
open Go.RowKit Rn
set_option linter.unusedVariables false
set_option linter.unusedSimpArgs false
theorem runs_many (A : Option Addr) (l c : Nat) (w : World) (hm : 300 < l) :
    Calls Try.prog 3 #[.slice A l c] w fun e w' => e = .returned (.bool true) ∧ Below w.heap.size w w' := by
  have B := Lib.hid fit_any
  have h300 : (300 : Int) < l := by omega
  go_enter Try.func3, Try.ntmps3
  go_wp2_with fail
  refine (B.out _).mono ?_; rintro e w1 ⟨rfl, g1⟩
  have hb0 := below_alloc1 w (Obj.cells #[.bool false] 4)
  have hT1 := (g1.block w.heap.size (by simp)).trans (heap_alloc_new w (Obj.cells #[.bool false] 4))
  have c1 : w1.cell? ⟨w.heap.size, 0, none⟩ = some (.bool false) := by rw [cell_of_row _ _ 0 _ 4 (0, 0) hT1]; rfl
  have f1 := frozen_of_row _ _ 0 _ 4 hT1
  have HB := Lib.hid (And.intro (hb0.trans (g1.mono hb0.size)) hT1)
  clear B hb0 hT1 g1
  go_wp2_with fail
  refine bodyPost_ret (results_cell1 (by rfl) _ _ w.heap.size true rfl ?_) rfl ⟨rfl, ?_⟩
  · rw [cell_of_row _ _ 0 _ 4 (0, 0) (heap_setCell_same w1 _ 0 _ 4 _ HB.out.2)]; rfl
  · exact HB.out.1.setCell (p := ⟨w.heap.size, 0, none⟩) (Nat.le_refl _) _
theorem runs_law (v : Value) (w : World) (h : CameC w v) : Calls Try.prog 3 #[v] w fun e w' => e = .returned (.bool true) ∧ Below w.heap.size w w' := by
  obtain ⟨A, n, c, rfl, h | ⟨xs, h1, h2, h3⟩⟩ := h
  · exact runs_many A n c w h
  · exact runs_all A n c xs w h1 h2 h3
end Go.Proofs.Ytoccgbfnbpkphaa
