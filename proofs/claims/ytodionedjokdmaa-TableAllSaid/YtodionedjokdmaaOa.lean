/- Objects in memory: their cells, as they are made. -/
import Derived.Test.YtodionedjokdmaaVq
import Derived.StillTailTactics
import Derived.BigRegion
set_option linter.unusedVariables false
set_option linter.unusedSimpArgs false
namespace Go.Proofs.Ytodionedjokdmaa
open Go.RowKit
set_option linter.unusedVariables false
set_option linter.unusedSimpArgs false
theorem oz_size : Try.zeroCells60.size = 291 := by kernel_rfl
theorem oz2 : Try.zeroCells60[2]? = some (.int .u64 0) := by kernel_rfl
theorem oz3 : Try.zeroCells60[3]? = some (.int .i64 0) := by kernel_rfl
theorem oz6 : Try.zeroCells60[6]? = some (.int .u64 0) := by kernel_rfl
theorem oz15 : Try.zeroCells60[15]? = some (.slice none 0 0) := by kernel_rfl
theorem oz16 : Try.zeroCells60[16]? = some (.slice none 0 0) := by kernel_rfl
theorem oz19 : Try.zeroCells60[19]? = some (.pointer none) := by kernel_rfl
/-- An object's cells: name, kind, home. -/
def ocs (Z : Array Value) (nm kd hm : Value) : Array Value := ((Z.setIfInBounds 2 nm).setIfInBounds 3 kd).setIfInBounds 6 hm
theorem ocs_size (nm kd hm : Value) : (ocs Try.zeroCells60 nm kd hm).size = 291 := by unfold ocs; simp only [Array.size_setIfInBounds]; exact oz_size
theorem set_self {cs : Array Value} {i : Nat} (v : Value) (h : i < cs.size) : (cs.setIfInBounds i v)[i]? = some v := by rw [Array.getElem?_setIfInBounds_self_of_lt h]
theorem ocs_at (nm kd hm : Value) : (ocs Try.zeroCells60 nm kd hm)[2]? = some nm ∧ (ocs Try.zeroCells60 nm kd hm)[3]? = some kd ∧ (ocs Try.zeroCells60 nm kd hm)[6]? = some hm ∧ (ocs Try.zeroCells60 nm kd hm)[15]? = some (.slice none 0 0) ∧ (ocs Try.zeroCells60 nm kd hm)[19]? = some (.pointer none) := by
  have h := oz_size
  unfold ocs
  refine ⟨?_, ?_, ?_, ?_, ?_⟩
  · rw [Array.getElem?_setIfInBounds_ne (by decide), Array.getElem?_setIfInBounds_ne (by decide), set_self _ (by omega)]
  · rw [Array.getElem?_setIfInBounds_ne (by decide), set_self _ (by simp only [Array.size_setIfInBounds]; omega)]
  · rw [set_self _ (by simp only [Array.size_setIfInBounds]; omega)]
  · rw [Array.getElem?_setIfInBounds_ne (by decide), Array.getElem?_setIfInBounds_ne (by decide), Array.getElem?_setIfInBounds_ne (by decide)]; exact oz15
  · rw [Array.getElem?_setIfInBounds_ne (by decide), Array.getElem?_setIfInBounds_ne (by decide), Array.getElem?_setIfInBounds_ne (by decide)]; exact oz19
theorem set_same {cs : Array Value} {i : Nat} {v : Value} (h : cs[i]? = some v) : cs.setIfInBounds i v = cs := by
  apply Array.ext_getElem?
  intro k
  by_cases e : i = k
  · subst e; rw [set_self _ (Array.getElem?_eq_some_iff.1 h).1, h]
  · rw [Array.getElem?_setIfInBounds_ne e]
theorem ocs2 (nm kd : Value) : (Try.zeroCells60.setIfInBounds 2 nm).setIfInBounds 3 kd = ocs Try.zeroCells60 nm kd (.int .u64 0) :=
  (set_same (by rw [Array.getElem?_setIfInBounds_ne (by decide), Array.getElem?_setIfInBounds_ne (by decide)]; exact oz6)).symm
theorem ocs0 : Try.zeroCells60 = ocs Try.zeroCells60 (.int .u64 0) (.int .i64 0) (.int .u64 0) := by
  rw [← ocs2, set_same oz2, set_same oz3]
end Go.Proofs.Ytodionedjokdmaa
