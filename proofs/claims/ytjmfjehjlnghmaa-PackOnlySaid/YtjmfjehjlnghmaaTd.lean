import Derived.Test.YtjmfjehjlnghmaaTa
import Derived.Test.YtjmfjehjlnghmaaLa
namespace Go.Proofs.Ytjmfjehjlnghmaa
open Go.ChangeShapes Go.WideShapes Go.ChangeAt Go.RowKit Go.Joins
set_option linter.unusedVariables false
set_option linter.unusedSimpArgs false

theorem cells5 : Try.prog.cellsOf 5 = 1 := by kernel_rfl
theorem bytes5 : Try.prog.bytesOf 5 = 1 := by kernel_rfl
section
variable {H : Type} {enc : TypeId × Value → H} {W : World} {base : Nat} {spare : Nat → Bool} {held : Bool}
/-- Bytes that came in. -/
theorem open_bytes {v : Value} {d : DataW H} {p : List MemPlace} (hv : Value.okWide Try.prog W .any base 24 v) (h : DataW.Trod enc Try.prog W 0 (fun _ => true) true 24 v d p) (hz : ∀ n ∈ d.weights Try.prog 24, n ≤ reachBytes) : CameB W v := by
  obtain ⟨a0, len, cap, rfl⟩ := okWide_slice Try.underlying24 hv
  obtain ⟨fuel, h⟩ := h
  rcases open_ints Try.underlying24 Try.underlying5 cells5 h with ⟨hcs, hx⟩ | ⟨a, len', cap', zs, hcs, _, hl, hmx, hz1, hx, hcell, hwz⟩
  · simp [Value.cells] at hcs; obtain ⟨rfl, rfl, rfl⟩ := hcs
    exact ⟨none, 0, 0, [], rfl, rfl, by omega, BR.none W, fun _ => rfl, by simp⟩
  · simp [Value.cells] at hcs; obtain ⟨rfl, el, ec⟩ := hcs; subst el ec
    by_cases h0 : len = 0
    · subst h0
      exact ⟨some a, 0, cap, [], rfl, rfl, by omega, BR.nil W _, (fun e => by cases e), by simp⟩
    · have hw : (lits (H := H) .u8 (zs.take len)).length * 1 ≤ reachBytes := by
        have := hz (((lits (H := H) .u8 (zs.take len)).length + (lits (H := H) .u8 (zs.drop len)).length) * Try.prog.bytesOf 5) (by
          rw [show d = _ from congrArg Prod.fst hx]
          simp [DataW.weights, Try.underlying24])
        rw [bytes5] at this
        omega
      have hr : reachBytes < 2 ^ 47 := reachBytes_lt
      have hzl : len ≤ zs.length := by rw [hz1]; split <;> omega
      have hlen : len ≤ reachBytes := by
        simp only [lits, List.length_map, List.length_take] at hw
        rw [Nat.min_eq_left hzl] at hw
        omega
      obtain ⟨b, off, spot⟩ := a
      have hspot : spot = none := by simpa [Addr.add] using World.cell?_spot (hcell 0 (by omega))
      subst hspot
      have hc : ∀ j, j < zs.length → W.cell? ⟨b, off + j, none⟩ = some (.int .u8 (zs.getD j 0)) := fun j hj => by rw [← add_plain]; exact hcell j hj
      have hb : b < W.heap.size := by
        have := hc 0 (by omega)
        unfold World.cell? at this
        cases ho : W.heap[b]? with
        | none => simp [ho] at this
        | some o => exact (Array.getElem?_eq_some_iff.1 ho).1
      have hpos : ∀ n ∈ zs, 0 ≤ n ∧ n ≤ 255 := fun n hn => bounds_u8 (hwz n hn)
      refine ⟨_, len, cap, (zs.take len).map Int.toNat, rfl, by simp; omega, by unfold reachBytes at hlen; omega, fun i x hx => ?_, (fun e => by cases e), fun x hx => ?_⟩
      · rw [List.getElem?_map] at hx
        cases hy : (zs.take len)[i]? with
        | none => rw [hy] at hx; cases hx
        | some y =>
          rw [hy] at hx
          obtain rfl : y.toNat = x := by simpa using hx
          have hi : i < len := by have := (List.getElem?_eq_some_iff.1 hy).1; rw [List.length_take] at this; omega
          rw [List.getElem?_take_of_lt hi] at hy
          refine ⟨b, off, rfl, hb, ?_⟩
          rw [hc i (by omega), List.getD_eq_getElem?_getD, hy]
          have := hpos y (List.mem_of_getElem? hy)
          simp [Int.toNat_of_nonneg this.1]
      · obtain ⟨y, hy, rfl⟩ := List.mem_map.1 hx
        have := hpos y (List.mem_of_mem_take hy)
        omega
/-- A whole number that came in. -/
theorem open_i64 {v : Value} {d : DataW H} {p : List MemPlace} (hv : Value.okWide Try.prog W .any base 3 v) (h : DataW.Trod enc Try.prog W 0 (fun _ => true) true 3 v d p) : ∃ x : Int, v = .int .i64 x := by
  obtain ⟨x, rfl⟩ := okWide_int Try.underlying3 hv
  exact ⟨x, rfl⟩
/-- One without a sign. -/
theorem open_u64 {v : Value} {d : DataW H} {p : List MemPlace} (hv : Value.okWide Try.prog W .any base 42 v) (h : DataW.Trod enc Try.prog W 0 (fun _ => true) true 42 v d p) : ∃ x : Nat, v = .int .u64 x ∧ x < 18446744073709551616 := by
  obtain ⟨y, rfl⟩ := okWide_int Try.underlying42 hv
  obtain ⟨fuel, h⟩ := h
  obtain ⟨x, e0, _, wx⟩ := DataW.trod_int Try.underlying42 h
  simp [Value.cells] at e0
  subst e0
  have := bounds_u64 wx
  exact ⟨y.toNat, by rw [Int.toNat_of_nonneg this.1], by omega⟩
end
end Go.Proofs.Ytjmfjehjlnghmaa
