/- What came in: numbers, an instruction, registers. -/
import Derived.Test.YtojnokaeopadfaaKc
import Derived.ProofKit
import Derived.OpenShut
import Derived.SizedLaws
import Derived.Lib.SmallJoins
set_option linter.unusedVariables false
set_option linter.unusedSimpArgs false
namespace Go.Proofs.Ytojnokaeopadfaa
open Go.ChangeShapes Go.WideShapes Go.ChangeAt Go.RowKit Go.Joins
theorem cells23 : Try.prog.cellsOf 27 = 5 := by kernel_rfl
theorem laidOut : laidOutB Try.prog = true := by kernel_rfl
/-- Registers, as an argument has them. -/
def CameU (w : World) (v : Value) : Prop := ∃ (A : Option Addr) (n c : Nat), v = .slice A n c ∧ (16 < n ∨ ∃ us : List Nat, us.length = n ∧ n ≤ 16 ∧ UR w A us ∧ ∀ x ∈ us, x < 18446744073709551616)
section
variable {H : Type} {enc : TypeId × Value → H} {W : World} {base : Nat} {spare : Nat → Bool} {held : Bool}
set_option maxRecDepth 100000 in
theorem open_i64 {v : Value} {d : DataW H} {p : List MemPlace} (hv : Value.okWide Try.prog W .any base 3 v) (h : DataW.Trod enc Try.prog W 0 (fun _ => true) true 3 v d p) : ∃ x : Int, v = .int .i64 x ∧ -9223372036854775808 ≤ x ∧ x ≤ 9223372036854775807 := by
  obtain ⟨y, rfl⟩ := okWide_int Try.underlying3 hv
  obtain ⟨fuel, h⟩ := h
  obtain ⟨x, e0, _, wx⟩ := DataW.trod_int Try.underlying3 h
  simp [Value.cells] at e0
  subst e0
  have := bounds_i64 wx
  exact ⟨_, rfl, this.1, this.2⟩
set_option maxRecDepth 100000 in
theorem open_i32 {v : Value} {d : DataW H} {p : List MemPlace} (hv : Value.okWide Try.prog W .any base 21 v) (h : DataW.Trod enc Try.prog W 0 (fun _ => true) true 21 v d p) : ∃ x : Int, v = .int .i32 x ∧ -2147483648 ≤ x ∧ x ≤ 2147483647 := by
  obtain ⟨y, rfl⟩ := okWide_int Try.underlying21 hv
  obtain ⟨fuel, h⟩ := h
  obtain ⟨x, e0, _, wx⟩ := DataW.trod_int Try.underlying21 h
  simp [Value.cells] at e0
  subst e0
  have := bounds_i32 wx
  exact ⟨_, rfl, this.1, this.2⟩
set_option maxRecDepth 100000 in
theorem open_u64 {v : Value} {d : DataW H} {p : List MemPlace} (hv : Value.okWide Try.prog W .any base 32 v) (h : DataW.Trod enc Try.prog W 0 (fun _ => true) true 32 v d p) : ∃ x : Nat, v = .int .u64 (x : Nat) ∧ x < 18446744073709551616 := by
  obtain ⟨y, rfl⟩ := okWide_int Try.underlying32 hv
  obtain ⟨fuel, h⟩ := h
  obtain ⟨x, e0, _, wx⟩ := DataW.trod_int Try.underlying32 h
  simp [Value.cells] at e0
  subst e0
  have := bounds_u64 wx
  exact ⟨y.toNat, by rw [Int.toNat_of_nonneg this.1], by omega⟩
set_option maxRecDepth 100000 in
/-- Registers that came in. -/
theorem open_u64s {v : Value} {d : DataW H} {p : List MemPlace} (hv : Value.okWide Try.prog W .any base 23 v) (h : DataW.Trod enc Try.prog W 0 (fun _ => true) true 23 v d p) : CameU W v := by
  obtain ⟨a0, len, cap, rfl⟩ := okWide_slice Try.underlying23 hv
  obtain ⟨fuel, h⟩ := h
  rcases open_ints Try.underlying23 Try.underlying32 cells32 h with ⟨hcs, hx⟩ | ⟨a, len', cap', zs, hcs, _, hl, hmx, hz1, hx, hcell, hwz⟩
  · simp [Value.cells] at hcs; obtain ⟨rfl, rfl, rfl⟩ := hcs
    exact ⟨_, _, _, rfl, .inr ⟨[], rfl, by omega, fun i q hi => by simp at hi, fun x hx => by simp at hx⟩⟩
  · simp [Value.cells] at hcs; obtain ⟨rfl, el, ec⟩ := hcs; subst el ec
    refine ⟨_, _, _, rfl, ?_⟩
    by_cases hbig : 16 < len
    · exact .inl hbig
    · have hzl : len ≤ zs.length := by rw [hz1]; split <;> omega
      have hpos : ∀ n ∈ zs, 0 ≤ n ∧ n ≤ 18446744073709551615 := fun n hn => bounds_u64 (hwz n hn)
      refine .inr ⟨(zs.take len).map Int.toNat, ?_, by omega, fun i q hi => ?_, fun x hx => ?_⟩
      · rw [List.length_map, List.length_take]; omega
      · rw [List.getElem?_map] at hi
        cases hy : (zs.take len)[i]? with
        | none => rw [hy] at hi; cases hi
        | some y =>
          rw [hy] at hi
          obtain rfl : y.toNat = q := by simpa using hi
          have hil : i < len := by have := (List.getElem?_eq_some_iff.1 hy).1; rw [List.length_take] at this; omega
          rw [List.getElem?_take_of_lt hil] at hy
          obtain ⟨b, off, spot⟩ := a
          have hspot : spot = none := by simpa [Addr.add] using World.cell?_spot (hcell 0 (by omega))
          subst hspot
          have hc := hcell i (by omega)
          rw [addr_add, List.getD_eq_getElem?_getD, hy] at hc
          have hp := hpos y (List.mem_of_getElem? hy)
          exact ⟨b, off, rfl, block_lt_of_cell hc, by rw [Int.toNat_of_nonneg hp.1]; exact hc⟩
      · obtain ⟨z, hz, rfl⟩ := List.mem_map.1 hx
        have := hpos z (List.mem_of_mem_take hz)
        omega
theorem array5 {α : Type} {cs : Array α} (h : cs.size = 5) : ∃ c0 c1 c2 c3 c4, cs = #[c0, c1, c2, c3, c4] := by
  obtain ⟨l⟩ := cs
  match l, h with
  | [c0, c1, c2, c3, c4], _ => exact ⟨c0, c1, c2, c3, c4, rfl⟩
set_option maxRecDepth 100000 in
/-- An instruction that came in. -/
theorem open_ins {v : Value} {d : DataW H} {p : List MemPlace} (hv : Value.okWide Try.prog W .any base 27 v) (h : DataW.Trod enc Try.prog W 0 (fun _ => true) true 27 v d p) :
    ∃ o a b c m : Int, v = .agg #[.int .i64 o, .int .i64 a, .int .i64 b, .int .i64 c, .int .i32 m] ∧ -2147483648 ≤ m ∧ m ≤ 2147483647 := by
  obtain ⟨cs, rfl, hsz⟩ := okWide_struct Try.underlying27 hv
  obtain ⟨c0, c1, c2, c3, c4, rfl⟩ := array5 (hsz.trans cells23)
  obtain ⟨fuel, hf⟩ := h
  obtain ⟨xs, n, rfl, hx, hl, hn, hel⟩ := DataW.trod_struct Try.underlying27 hf
  have t : ∀ (i : Nat) (f : Field), (#[f]).size = 1 → i < xs.length → ∃ y, xs[i]? = some y := fun i f _ hi => ⟨_, List.getElem?_eq_getElem hi⟩
  have hn5 : xs.length = 5 := hn
  obtain ⟨y0, e0⟩ : ∃ y, xs[0]? = some y := ⟨_, List.getElem?_eq_getElem (by omega)⟩
  obtain ⟨y1, e1⟩ : ∃ y, xs[1]? = some y := ⟨_, List.getElem?_eq_getElem (by omega)⟩
  obtain ⟨y2, e2⟩ : ∃ y, xs[2]? = some y := ⟨_, List.getElem?_eq_getElem (by omega)⟩
  obtain ⟨y3, e3⟩ : ∃ y, xs[3]? = some y := ⟨_, List.getElem?_eq_getElem (by omega)⟩
  obtain ⟨y4, e4⟩ : ∃ y, xs[4]? = some y := ⟨_, List.getElem?_eq_getElem (by omega)⟩
  have g0 := hel 0 _ rfl
  have g1 := hel 1 _ rfl
  have g2 := hel 2 _ rfl
  have g3 := hel 3 _ rfl
  have g4 := hel 4 _ rfl
  rw [e0] at g0
  rw [e1] at g1
  rw [e2] at g2
  rw [e3] at g3
  rw [e4] at g4
  have k3 : Try.prog.cellsOf 3 = 1 := by kernel_rfl
  have k21 : Try.prog.cellsOf 21 = 1 := by kernel_rfl
  obtain ⟨o, w0, _, _⟩ := DataW.trod_int Try.underlying3 g0
  obtain ⟨a, w1, _, _⟩ := DataW.trod_int Try.underlying3 g1
  obtain ⟨b, w2, _, _⟩ := DataW.trod_int Try.underlying3 g2
  obtain ⟨c, w3, _, _⟩ := DataW.trod_int Try.underlying3 g3
  obtain ⟨m, w4, _, wf⟩ := DataW.trod_int Try.underlying21 g4
  simp [Value.cells, k3] at w0 w1 w2 w3
  simp [Value.cells, k21] at w4
  subst w0 w1 w2 w3 w4
  have := bounds_i32 wf
  exact ⟨o, a, b, c, m, rfl, this.1, this.2⟩
end
end Go.Proofs.Ytojnokaeopadfaa
