import Derived.Test.YtmbdglhihakkjaaSo
import Derived.Test.YtmbdglhihakkjaaSj
import Derived.ProofKit
import Derived.OpenShut
import Derived.SizedLaws
import Derived.Lib.SmallJoins
namespace Go.Proofs.Ytmbdglhihakkjaa
open Go.ChangeShapes Go.WideShapes Go.ChangeAt Go.RowKit Go.Joins
set_option linter.unusedVariables false
set_option linter.unusedSimpArgs false

theorem cells29 : Try.prog.cellsOf 24 = 2 := by kernel_rfl
theorem cells3 : Try.prog.cellsOf 3 = 1 := by kernel_rfl
theorem bytes3 : Try.prog.bytesOf 3 = 8 := by kernel_rfl
section
variable {H : Type} {enc : TypeId × Value → H} {W : World} {base : Nat} {spare : Nat → Bool} {held : Bool}
/-- A seed that came in. -/
theorem open_seed {v : Value} {d : DataW H} {p : List MemPlace} (hv : Value.okWide Try.prog W .any base 24 v) (h : DataW.Trod enc Try.prog W 0 (fun _ => true) true 24 v d p) (hz : ∀ n ∈ d.weights Try.prog 24, n ≤ reachBytes) :
    ∃ S sv, v = .agg #[.int .i64 S, sv] ∧ Ints W sv := by
  obtain ⟨v0, v1, y0, y1, m, rfl, rfl, rfl, h0, h1⟩ := open_agg2 Try.underlying24 (by kernel_rfl) cells29 hv h
  obtain ⟨S, e0, hy0, _⟩ := DataW.trod_int Try.underlying3 h0
  simp at e0
  subst e0
  refine ⟨S, v1, rfl, ?_⟩
  rcases open_ints Try.underlying22 Try.underlying3 cells3 h1 with ⟨hcs, hx⟩ | ⟨a, len, cap, zs, hcs, _, hl, hmx, hz1, hx, hcell, hwz⟩
  · simp at hcs; subst hcs; exact .inl ⟨_, _, rfl⟩
  · simp at hcs; subst hcs
    by_cases h0 : len = 0
    · subst h0; exact .inl ⟨_, _, rfl⟩
    · have hw : (lits (H := H) .i64 (zs.take len)).length * 8 ≤ reachBytes := by
        have := hz (((lits (H := H) .i64 (zs.take len)).length + (lits (H := H) .i64 (zs.drop len)).length) * Try.prog.bytesOf 3) (by
          rw [hx]
          simp [DataW.weights, DataW.weightsEach, Try.underlying24, Try.underlying22])
        rw [bytes3] at this
        omega
      have hr : reachBytes < 2 ^ 47 := reachBytes_lt
      have hzl : len ≤ zs.length := by rw [hz1]; split <;> omega
      have hlen : len * 8 < 2 ^ 47 := by
        simp only [lits, List.length_map, List.length_take] at hw
        rw [Nat.min_eq_left hzl] at hw
        omega
      obtain ⟨b, off, spot⟩ := a
      have hspot : spot = none := by simpa [Addr.add] using World.cell?_spot (hcell 0 (by omega))
      subst hspot
      have hc : ∀ j, j < zs.length → W.cell? ⟨b, off + j, none⟩ = some (.int .i64 (zs.getD j 0)) := fun j hj => by rw [← add_plain]; exact hcell j hj
      have hb : b < W.heap.size := by
        have := hc 0 (by omega)
        unfold World.cell? at this
        cases ho : W.heap[b]? with
        | none => simp [ho] at this
        | some o => exact (Array.getElem?_eq_some_iff.1 ho).1
      refine .inr ⟨b, off, cap, len, zs.take len, rfl, by rw [List.length_take]; omega, by omega, hb, fun i x hx => ?_⟩
      have hi : i < len := by have := (List.getElem?_eq_some_iff.1 hx).1; rw [List.length_take] at this; omega
      rw [List.getElem?_take_of_lt hi] at hx
      rw [hc i (by omega), List.getD_eq_getElem?_getD, hx]
      rfl
end
end Go.Proofs.Ytmbdglhihakkjaa
