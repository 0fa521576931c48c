/- What came in: bytes, numbers. -/
import Derived.Test.YtkpdgjmeeeddhaaBd
import Derived.ProofKit
import Derived.OpenShut
import Derived.SizedLaws
import Derived.Lib.SmallJoins
set_option linter.unusedVariables false
set_option linter.unusedSimpArgs false
namespace Go.Proofs.Ytkpdgjmeeeddhaa
open Go.ChangeShapes Go.WideShapes Go.ChangeAt Go.RowKit Go.Joins
set_option linter.unusedVariables false
set_option linter.unusedSimpArgs false
theorem cells3 : Try.prog.cellsOf 3 = 1 := by kernel_rfl
theorem cells5 : Try.prog.cellsOf 5 = 1 := by kernel_rfl
theorem bytes5 : Try.prog.bytesOf 5 = 1 := by kernel_rfl
theorem cellsU : Try.prog.cellsOf 29 = 1 := by kernel_rfl
theorem cellsB : Try.prog.cellsOf 30 = 1 := by kernel_rfl
theorem laidOut : laidOutB Try.prog = true := by kernel_rfl
/-- Bytes, as an argument has them. -/
def CameB (w : World) (v : Value) : Prop := ∃ (A : Option Addr) (n c : Nat) (bs : List Nat), v = .slice A n c ∧ bs.length = n ∧ n ≤ 140737488351232 ∧ n ≤ c ∧ (A = none → c = 0) ∧ BR w A bs ∧ ∀ x ∈ bs, x < 256
section
variable {H : Type} {enc : TypeId × Value → H} {W : World} {base : Nat} {spare : Nat → Bool} {held : Bool}
theorem open_i64 {v : Value} {d : DataW H} {p : List MemPlace} (hv : Value.okWide Try.prog W .any base 3 v) (h : DataW.Trod enc Try.prog W 0 (fun _ => true) true 3 v d p) : ∃ x : Int, v = .int .i64 x ∧ -9223372036854775808 ≤ x ∧ x ≤ 9223372036854775807 := by
  obtain ⟨y, rfl⟩ := okWide_int Try.underlying3 hv
  obtain ⟨fuel, h⟩ := h
  obtain ⟨x, e0, _, wx⟩ := DataW.trod_int Try.underlying3 h
  simp [Value.cells] at e0
  subst e0
  have := bounds_i64 wx
  exact ⟨_, rfl, this.1, this.2⟩
theorem open_u64 {v : Value} {d : DataW H} {p : List MemPlace} (hv : Value.okWide Try.prog W .any base 29 v) (h : DataW.Trod enc Try.prog W 0 (fun _ => true) true 29 v d p) : ∃ x : Nat, v = .int .u64 x ∧ x < 18446744073709551616 := by
  obtain ⟨y, rfl⟩ := okWide_int Try.underlying29 hv
  obtain ⟨fuel, h⟩ := h
  obtain ⟨x, e0, _, wx⟩ := DataW.trod_int Try.underlying29 h
  simp [Value.cells] at e0
  subst e0
  have := bounds_u64 wx
  exact ⟨y.toNat, by rw [Int.toNat_of_nonneg this.1], by omega⟩
theorem lt_of_cell {b o : Nat} {v : Value} (h : W.cell? ⟨b, o, none⟩ = some v) : b < W.heap.size := by
  unfold World.cell? at h
  cases ho : W.heap[b]? with
  | none => simp [ho] at h
  | some o => exact (Array.getElem?_eq_some_iff.1 ho).1
/-- Bytes of a list of cells, one slice of them. -/
theorem bytes_of {fuel : Nat} {v : Value} {y : DataW H × List MemPlace} (h : DataW.trod enc Try.prog W 0 (fun _ => true) true fuel 30 [v] = some y) : ∃ (A : Option Addr) (n c : Nat) (bs : List Nat), v = .slice A n c ∧ bs.length = n ∧ n ≤ c ∧ (A = none → c = 0) ∧ BR W A bs ∧ (∀ x ∈ bs, x < 256) ∧ ((∀ m ∈ y.1.weights Try.prog 30, m ≤ reachBytes) → n ≤ 140737488351232) := by
  rcases open_ints Try.underlying30 Try.underlying5 cells5 h with ⟨hcs, hx⟩ | ⟨a, len, cap, zs, hcs, _, hl, hmx, hz1, hx, hcell, hwz⟩
  · simp at hcs
    exact ⟨none, 0, 0, [], hcs, rfl, by omega, fun _ => rfl, BR.nil W _, by simp, fun _ => by omega⟩
  · simp at hcs
    by_cases h0 : len = 0
    · subst h0
      exact ⟨some a, 0, cap, [], hcs, rfl, by omega, (fun e => by cases e), BR.nil W _, by simp, fun _ => by omega⟩
    · have hzl : len ≤ zs.length := by rw [hz1]; split <;> omega
      obtain ⟨b, off, spot⟩ := a
      have hspot : spot = none := by simpa [Addr.add] using World.cell?_spot (hcell 0 (by omega))
      subst hspot
      have hc : ∀ j, j < zs.length → W.cell? ⟨b, off + j, none⟩ = some (.int .u8 (zs.getD j 0)) := fun j hj => by rw [← addr_add]; exact hcell j hj
      have hb := lt_of_cell (hc 0 (by omega))
      have hpos : ∀ n ∈ zs, 0 ≤ n ∧ n ≤ 255 := fun n hn => bounds_u8 (hwz n hn)
      refine ⟨_, len, cap, (zs.take len).map Int.toNat, hcs, by simp; omega, hl, (fun e => by cases e), fun i x hx => ?_, fun x hx => ?_, fun hz => ?_⟩
      · rw [List.getElem?_map] at hx
        cases hy : (zs.take len)[i]? with
        | none => rw [hy] at hx; cases hx
        | some y =>
          rw [hy] at hx
          obtain rfl : y.toNat = x := by simpa using hx
          have hi : i < len := by have := (List.getElem?_eq_some_iff.1 hy).1; rw [List.length_take] at this; omega
          rw [List.getElem?_take_of_lt hi] at hy
          refine ⟨b, off, rfl, hb, ?_⟩
          rw [hc i (by omega), List.getD_eq_getElem?_getD, hy]
          have := hpos y (List.mem_of_getElem? hy)
          simp [Int.toNat_of_nonneg this.1]
      · obtain ⟨y, hy, rfl⟩ := List.mem_map.1 hx
        have := hpos y (List.mem_of_mem_take hy)
        omega
      · have := hz (((lits (H := H) .u8 (zs.take len)).length + (lits (H := H) .u8 (zs.drop len)).length) * Try.prog.bytesOf 5) (by
          rw [hx]
          simp [DataW.weights, Try.underlying30])
        rw [bytes5] at this
        simp only [lits, List.length_map, List.length_take] at this
        rw [Nat.min_eq_left hzl] at this
        unfold reachBytes at this
        omega
/-- Bytes that came in. -/
theorem open_bytes {v : Value} {d : DataW H} {p : List MemPlace} (hv : Value.okWide Try.prog W .any base 30 v) (h : DataW.Trod enc Try.prog W 0 (fun _ => true) true 30 v d p) (hz : ∀ n ∈ d.weights Try.prog 30, n ≤ reachBytes) : CameB W v := by
  obtain ⟨a0, len, cap, rfl⟩ := okWide_slice Try.underlying30 hv
  obtain ⟨fuel, h⟩ := h
  obtain ⟨A, n, c, bs, e, h1, h2, h3, h4, h5, h6⟩ := bytes_of (y := (d, p)) (by simpa [Value.cells] using h)
  exact ⟨A, n, c, bs, e, h1, h6 hz, h2, h3, h4, h5⟩
end
end Go.Proofs.Ytkpdgjmeeeddhaa
