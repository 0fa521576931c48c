/- What came in: numbers, lists of numbers of any length. -/
import Derived.Test.YtkbhcfldnfnlaaaVa
import Derived.ProofKit
import Derived.OpenShut
import Derived.SizedLaws
import Derived.Lib.SmallJoins
set_option linter.unusedVariables false
set_option linter.unusedSimpArgs false
namespace Go.Proofs.Ytkbhcfldnfnlaaa
open Go.ChangeShapes Go.WideShapes Go.ChangeAt Go.RowKit Go.Joins
set_option linter.unusedVariables false
set_option linter.unusedSimpArgs false
theorem laidOut : laidOutB Try.prog = true := by kernel_rfl
theorem cellsI : Try.prog.cellsOf 3 = 1 := by kernel_rfl
theorem cellsU : Try.prog.cellsOf 22 = 1 := by kernel_rfl
def inI (x : Int) : Value := .int .i64 x
theorem inI_one (x : Int) : (inI x).oneCell' = true := rfl
def Bi (x : Int) : Prop := -9223372036854775808 ≤ x ∧ x ≤ 9223372036854775807
/-- Numbers, as an argument has them. -/
def CameN (w : World) (v : Value) : Prop := ∃ (A : Option Addr) (n c : Nat) (xs : List Int), v = .slice A n c ∧ n ≤ c ∧ c ≤ maxLen ∧ xs.length = n ∧ LR inI w A xs ∧ ∀ x ∈ xs, Bi x
theorem lt_of_cell {w : World} {b o : Nat} {v : Value} (h : w.cell? ⟨b, o, none⟩ = some v) : b < w.heap.size := World.block_lt_of_cell? w _ h
section
variable {H : Type} {enc : TypeId × Value → H} {W : World} {base : Nat} {spare : Nat → Bool} {held : Bool}
theorem open_i64 {v : Value} {d : DataW H} {p : List MemPlace} (hv : Value.okWide Try.prog W .any base 3 v) (h : DataW.Trod enc Try.prog W 0 (fun _ => true) true 3 v d p) : ∃ x : Int, v = .int .i64 x ∧ -9223372036854775808 ≤ x ∧ x ≤ 9223372036854775807 := by
  obtain ⟨y, rfl⟩ := okWide_int Try.underlying3 hv
  obtain ⟨fuel, h⟩ := h
  obtain ⟨x, e0, _, wx⟩ := DataW.trod_int Try.underlying3 h
  simp [Value.cells] at e0
  subst e0
  have := bounds_i64 wx
  exact ⟨_, rfl, this.1, this.2⟩
theorem open_u64 {v : Value} {d : DataW H} {p : List MemPlace} (hv : Value.okWide Try.prog W .any base 22 v) (h : DataW.Trod enc Try.prog W 0 (fun _ => true) true 22 v d p) : ∃ x : Int, v = .int .u64 x ∧ 0 ≤ x ∧ x ≤ 18446744073709551615 := by
  obtain ⟨y, rfl⟩ := okWide_int Try.underlying22 hv
  obtain ⟨fuel, h⟩ := h
  obtain ⟨x, e0, _, wx⟩ := DataW.trod_int Try.underlying22 h
  simp [Value.cells] at e0
  subst e0
  have := bounds_u64 wx
  exact ⟨_, rfl, this.1, this.2⟩
/-- Numbers that came in. -/
theorem open_nums {v : Value} {d : DataW H} {p : List MemPlace} (hv : Value.okWide Try.prog W .any base 23 v) (h : DataW.Trod enc Try.prog W 0 (fun _ => true) true 23 v d p) : CameN W v := by
  obtain ⟨a0, len, cap, rfl⟩ := okWide_slice Try.underlying23 hv
  obtain ⟨fuel, h⟩ := h
  rcases open_ints Try.underlying23 Try.underlying3 cellsI h with ⟨hcs, hx⟩ | ⟨a, len', cap', zs, hcs, _, hl, hmx, hz1, hx, hcell, hwz⟩
  · simp [Value.cells] at hcs; obtain ⟨rfl, rfl, rfl⟩ := hcs
    exact ⟨_, _, _, [], rfl, Nat.le_refl _, Nat.zero_le _, rfl, LR.nil _ _, by simp⟩
  · simp [Value.cells] at hcs; obtain ⟨rfl, el, ec⟩ := hcs; subst el ec
    have hzl : len ≤ zs.length := by rw [hz1]; split <;> omega
    refine ⟨_, _, _, zs.take len, rfl, hl, hmx, by rw [List.length_take]; omega, fun i q hi => ?_, fun x hx => bounds_i64 (hwz x (List.mem_of_mem_take hx))⟩
    have hil : i < len := by have := (List.getElem?_eq_some_iff.1 hi).1; rw [List.length_take] at this; omega
    rw [List.getElem?_take_of_lt hil] at hi
    obtain ⟨b, off, spot⟩ := a
    have hspot : spot = none := by simpa [Addr.add] using World.cell?_spot (hcell 0 (by omega))
    subst hspot
    have hc := hcell i (by omega)
    rw [addr_add, List.getD_eq_getElem?_getD, hi] at hc
    exact ⟨b, off, rfl, lt_of_cell hc, hc⟩
theorem cells2 : Try.prog.cellsOf 38 = 2 := by kernel_rfl
theorem array2 {cs : Array Value} (h : cs.size = 2) : ∃ a b, cs = #[a, b] := by
  match cs, h with
  | ⟨[a, b]⟩, _ => exact ⟨a, b, rfl⟩
/-- Two numbers that came in. -/
theorem open_two {v : Value} {d : DataW H} {p : List MemPlace} (hv : Value.okWide Try.prog W .any base 38 v) (h : DataW.Trod enc Try.prog W 0 (fun _ => true) true 38 v d p) :
    ∃ x y : Int, v = .agg #[.int .u64 x, .int .u64 y] := by
  have hc : ∃ cs : Array Value, v = .agg cs ∧ cs.size = 2 := by
    simp only [Value.okWide, Try.underlying38] at hv
    obtain ⟨cs, h1, h2, _⟩ := hv
    exact ⟨cs, h1, by rw [h2]; exact cells2⟩
  obtain ⟨cs, rfl, hs⟩ := hc
  obtain ⟨c0, c1, rfl⟩ := array2 hs
  obtain ⟨fuel, hf⟩ := h
  obtain ⟨xs, m, _, _, _, hx, hel⟩ := DataW.trod_array Try.underlying38 hf
  have g0 := hel 0 (by omega)
  have g1 := hel 1 (by omega)
  simp only [cellsU, Value.cells] at g0 g1
  match xs, hx with
  | [y0, y1], _ =>
    obtain ⟨x, e0, _, _⟩ := DataW.trod_int Try.underlying22 (x := y0) (by simpa using g0)
    obtain ⟨y, e1, _, _⟩ := DataW.trod_int Try.underlying22 (x := y1) (by simpa using g1)
    simp at e0 e1
    subst e0 e1
    exact ⟨x, y, rfl⟩
end
end Go.Proofs.Ytkbhcfldnfnlaaa
