import Derived.Test.YtlkhbbdigljpjaaTa
namespace Go.Proofs.Ytlkhbbdigljpjaa
open Go.ChangeShapes Go.WideShapes Go.ChangeAt Go.RowKit Go.Joins
set_option linter.unusedVariables false
set_option linter.unusedSimpArgs false
section
variable {H : Type} {enc : TypeId × Value → H} {W : World} {base : Nat} {spare : Nat → Bool} {held : Bool}
/-- Two numbers that came in. -/
theorem open_two {v : Value} {d : DataW H} {p : List MemPlace} (hv : Value.okWide Try.prog W .any base 36 v) (h : DataW.Trod enc Try.prog W 0 (fun _ => true) true 36 v d p) :
    ∃ x y : Int, v = .agg #[.int .i64 x, .int .i64 y] := by
  have hc : ∃ cs : Array Value, v = .agg cs ∧ cs.size = 2 := by
    simp only [Value.okWide, Try.underlying36] at hv
    obtain ⟨cs, h1, h2, _⟩ := hv
    exact ⟨cs, h1, by rw [h2]; exact cells36⟩
  obtain ⟨cs, rfl, hs⟩ := hc
  obtain ⟨c0, c1, rfl⟩ := array2 hs
  obtain ⟨fuel, hf⟩ := h
  obtain ⟨xs, m, _, _, _, hx, hel⟩ := DataW.trod_array Try.underlying36 hf
  have g0 := hel 0 (by omega)
  have g1 := hel 1 (by omega)
  simp only [cells3, Value.cells] at g0 g1
  match xs, hx with
  | [y0, y1], _ =>
    obtain ⟨x, e0, _, _⟩ := DataW.trod_int Try.underlying3 (x := y0) (by simpa using g0)
    obtain ⟨y, e1, _, _⟩ := DataW.trod_int Try.underlying3 (x := y1) (by simpa using g1)
    simp at e0 e1
    subst e0 e1
    exact ⟨x, y, rfl⟩
end
end Go.Proofs.Ytlkhbbdigljpjaa
