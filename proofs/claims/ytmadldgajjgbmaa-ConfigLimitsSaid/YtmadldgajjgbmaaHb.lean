/- ConfigLimits. -/
import Derived.Test.YtmadldgajjgbmaaEa
set_option linter.unusedVariables false
set_option linter.unusedSimpArgs false
namespace Go.Proofs.Ytmadldgajjgbmaa
open Go.RowKit
set_option linter.unusedVariables false
set_option linter.unusedSimpArgs false
theorem i64_and1 (n : Int) : bits .and .i64 n 1 = n % 2 := by
  have h127 : (BitVec.ofInt 64 1).toNat = 2 ^ 1 - 1 := by decide
  have key : (BitVec.ofInt 64 n &&& BitVec.ofInt 64 1).toNat = (n % ((2 ^ 64 : Nat) : Int)).toNat % 2 ^ 1 := by
    rw [BitVec.toNat_and, BitVec.toNat_ofInt, h127, Nat.and_two_pow_sub_one_eq_mod]
  show IntKind.i64.wrap ((BitVec.ofInt 64 n &&& BitVec.ofInt 64 1).toNat : Nat) = n % 2
  rw [key, IntKind.wrap_i64]
  omega
theorem run_slots (w : World) (n : Nat) (hn : n ≤ 100) : (Instr.makeSlice 22 (.int .i64 (n : Int)) (.int .i64 (n : Int))).run Try.prog w = .ok (.slice (some ⟨w.heap.size, 0, none⟩) n n) (w.alloc (Obj.cells (madeCells #[.int .u64 0, .int .i64 0] (n * 2)) 49)) := by
  obtain ⟨i0, hi, hz0, hz1, hz2⟩ := info_parts infoSl
  have := run_make (P := Try.prog) w 22 49 i0 _ Try.underlying22 hi hz0 .i64 .i64 n n (by omega) (Int.le_refl _) (by rw [hz2]; omega) (by omega)
  rw [this, hz1, Int.toNat_natCast]
  rfl
/-- n slots, the first k of them of a tick. -/
def Sls (n k : Nat) (cur : Array Value) : Prop := cur.size = n * 2 ∧ ∀ j, j < n → cur[j * 2]? = some (.int .u64 0) ∧ cur[j * 2 + 1]? = some (.int .i64 (if j < k then 1 else 0))
theorem Sls.set {n k : Nat} {cur : Array Value} (h : Sls n k cur) (hk : k < n) : Sls n (k + 1) (cur.setIfInBounds (k * 2 + 1) (.int .i64 1)) := by
  refine ⟨by rw [Array.size_setIfInBounds]; exact h.1, fun j hj => ?_⟩
  rw [Array.getElem?_setIfInBounds_ne (by omega)]
  refine ⟨(h.2 j hj).1, ?_⟩
  by_cases e : j = k
  · subst e
    rw [Array.getElem?_setIfInBounds_self_of_lt (by rw [h.1]; omega), if_pos (by omega)]
  · rw [Array.getElem?_setIfInBounds_ne (by omega), (h.2 j hj).2]
    by_cases h2 : j < k
    · rw [if_pos h2, if_pos (by omega)]
    · rw [if_neg h2, if_neg (by omega)]
theorem sls_8 : Sls 8 0 (madeCells #[.int .u64 0, .int .i64 0] (8 * 2)) := ⟨by kernel_rfl, fun j hj => by
  match j, hj with
  | 0, _ => exact ⟨by kernel_rfl, by kernel_rfl⟩
  | 1, _ => exact ⟨by kernel_rfl, by kernel_rfl⟩
  | 2, _ => exact ⟨by kernel_rfl, by kernel_rfl⟩
  | 3, _ => exact ⟨by kernel_rfl, by kernel_rfl⟩
  | 4, _ => exact ⟨by kernel_rfl, by kernel_rfl⟩
  | 5, _ => exact ⟨by kernel_rfl, by kernel_rfl⟩
  | 6, _ => exact ⟨by kernel_rfl, by kernel_rfl⟩
  | 7, _ => exact ⟨by kernel_rfl, by kernel_rfl⟩⟩
theorem sls_9 : Sls 9 0 (madeCells #[.int .u64 0, .int .i64 0] (9 * 2)) := ⟨by kernel_rfl, fun j hj => by
  match j, hj with
  | 0, _ => exact ⟨by kernel_rfl, by kernel_rfl⟩
  | 1, _ => exact ⟨by kernel_rfl, by kernel_rfl⟩
  | 2, _ => exact ⟨by kernel_rfl, by kernel_rfl⟩
  | 3, _ => exact ⟨by kernel_rfl, by kernel_rfl⟩
  | 4, _ => exact ⟨by kernel_rfl, by kernel_rfl⟩
  | 5, _ => exact ⟨by kernel_rfl, by kernel_rfl⟩
  | 6, _ => exact ⟨by kernel_rfl, by kernel_rfl⟩
  | 7, _ => exact ⟨by kernel_rfl, by kernel_rfl⟩
  | 8, _ => exact ⟨by kernel_rfl, by kernel_rfl⟩⟩
theorem sls_m {m : Nat} (hm : m = 0 ∨ m = 1) : Sls (8 + m) 0 (madeCells #[.int .u64 0, .int .i64 0] ((8 + m) * 2)) := by
  rcases hm with rfl | rfl
  · exact sls_8
  · exact sls_9
theorem Sls.lv {n : Nat} {cur : Array Value} {w : World} {N : Nat} (h : Sls n n cur) (hN : w.heap[N]? = some (Obj.cells cur 49)) : LV 2 encSl w (some ⟨N, 0, none⟩) (List.replicate n ⟨0, 1⟩) := fun i x hx => by
  have hi : i < n := by have := (List.getElem?_eq_some_iff.1 hx).1; simpa using this
  obtain rfl : x = ⟨0, 1⟩ := (List.eq_of_mem_replicate (List.mem_of_getElem? hx))
  refine ⟨N, 0, rfl, (Array.getElem?_eq_some_iff.1 hN).1, fun j u hu => ?_⟩
  rw [cell_of_row _ _ _ _ _ (0, 0) hN, Nat.zero_add]
  have := h.2 i hi
  rw [if_pos hi] at this
  match j, hu with
  | 0, hu => obtain rfl : .int .u64 ((0 : Nat) : Int) = u := by simpa [encSl, inU] using hu
             exact this.1
  | 1, hu => obtain rfl : .int .i64 1 = u := by simpa [encSl, inU] using hu
             exact this.2
def dv : Om := ⟨6, 0, 2, [], 0, [], 0, 0, [], [], 0, 0⟩
def dvo : Ov := ⟨dv, ⟨none, 0, 0⟩, ⟨none, 0, 0⟩, ⟨none, 0, 0⟩, ⟨none, 0, 0⟩⟩
theorem nil_own (B : Nat) (w : World) {o : Ov} (h1 : o.lv = ⟨none, 0, 0⟩ ∧ o.m.lP = []) (h2 : o.cv = ⟨none, 0, 0⟩ ∧ o.m.cP = []) (h3 : o.dv = ⟨none, 0, 0⟩ ∧ o.m.da = []) (h4 : o.mv = ⟨none, 0, 0⟩ ∧ o.m.mp = []) : o.Own B w := by
  refine ⟨?_, ?_, ⟨?_, ?_⟩, ⟨?_, ?_⟩⟩
  · rw [h1.1, h1.2]; exact LOv.nil _ _ _
  · rw [h2.1, h2.2]; exact LOv.nil _ _ _
  · rw [h3.1, h3.2]; exact RW.nil _ _
  · rw [h3.2]; simp
  · rw [h4.1, h4.2]; exact RV.nil _ _
  · rw [h4.2]; simp
theorem nil_rd (w : World) {o : Ov} (h1 : o.lv = ⟨none, 0, 0⟩ ∧ o.m.lP = []) (h2 : o.cv = ⟨none, 0, 0⟩ ∧ o.m.cP = []) (h3 : o.dv = ⟨none, 0, 0⟩ ∧ o.m.da = []) (h4 : o.mv = ⟨none, 0, 0⟩ ∧ o.m.mp = []) : o.Rd w :=
  (nil_own 0 w h1 h2 h3 h4).rd (by rw [h3.2]; simp) (by rw [h4.2]; simp)
theorem right_cores (m : Nat) (hm : m = 0 ∨ m = 1) : rightB (4 + m) 100 9 [⟨0, 1⟩] [] = decide (m = 0) := by rcases hm with rfl | rfl <;> decide
theorem right_frames (m : Nat) (hm : m = 0 ∨ m = 1) : rightB 1 (4096 + m) 9 [⟨0, 1⟩] [] = decide (m = 0) := by rcases hm with rfl | rfl <;> decide
theorem right_names (m : Nat) (hm : m = 0 ∨ m = 1) : rightB 1 100 (4194302 + m) [⟨0, 1⟩] [] = decide (m = 0) := by rcases hm with rfl | rfl <;> decide
theorem right_slots (m : Nat) (hm : m = 0 ∨ m = 1) : rightB 1 100 9 (List.replicate (8 + m) ⟨0, 1⟩) [] = decide (m = 0) := by rcases hm with rfl | rfl <;> decide
theorem right_ticks (m : Nat) (hm : m = 0 ∨ m = 1) : rightB 1 100 9 [⟨0, 16 + m⟩] [] = decide (m = 0) := by rcases hm with rfl | rfl <;> decide
theorem right_seg (m : Nat) (hm : m = 0 ∨ m = 1) : rightB 1 100 9 [⟨0, 1⟩] [⟨2, 0, 2, [], 0, [], 16 + m, 0, [], [], 0, 0⟩] = decide (m = 0) := by rcases hm with rfl | rfl <;> decide +kernel
theorem right_objs (m : Nat) (hm : m = 0 ∨ m = 1) : rightB 1 100 9 [⟨0, 1⟩] (List.replicate (64 + m) dv) = decide (m = 0) := by rcases hm with rfl | rfl <;> decide +kernel
/-- The configuration in box C so far. -/
structure LS (W w0 : World) (C : Nat) (m : Nat) (w : World) : Prop where
  b : Below W.heap.size W w
  p : ∃ co fr nm A1 l1 c1 A2 l2 c2 xs ovs, w.heap[C]? = some (Obj.cells #[.int .i64 co, .int .i64 fr, .int .i64 nm, .slice A1 l1 c1, .slice A2 l2 c2] 29) ∧ CfR w A1 A2 l1 l2 xs ovs ∧ l2 ≤ c2 ∧ rightB co fr nm xs (ovs.map Ov.m) = decide (m = 0)
end Go.Proofs.Ytmadldgajjgbmaa
