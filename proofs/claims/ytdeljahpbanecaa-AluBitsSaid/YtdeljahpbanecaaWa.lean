/- That a whole number fits its kind. -/
import Derived.Test.YtdeljahpbanecaaRows
import Derived.RowKit
import Derived.WalkKit
import Derived.ProofKit
import Derived.OpenShut
import Derived.Carry
import Derived.Deep.Frames
namespace Go.Proofs.Ytdeljahpbanecaa
theorem fits_u64 {a : Int} (h : (Lit.int .u64 a).wf = true) : 0 ≤ a ∧ a < 18446744073709551616 := by
  have h' : (0 : Int) ≤ a ∧ a ≤ 18446744073709551615 := by simpa [Lit.wf, IntKind.min, IntKind.max, IntKind.signed, IntKind.bits] using h
  omega
theorem fits_i32 {a : Int} (h : (Lit.int .i32 a).wf = true) : -2147483648 ≤ a ∧ a ≤ 2147483647 := by
  simpa [Lit.wf, IntKind.min, IntKind.max, IntKind.signed, IntKind.bits] using h
end Go.Proofs.Ytdeljahpbanecaa
-- with Wz
namespace Go.Proofs.Ytdeljahpbanecaa
open Go.ChangeShapes Go.WideShapes Go.ChangeAt Go.RowKit
set_option linter.unusedVariables false
set_option linter.unusedSimpArgs false
theorem laid_out : laidOutB Try.prog = true := by kernel_rfl
theorem cells_two : Try.prog.cellsOf 27 = 2 := by kernel_rfl
theorem cells_u64 : Try.prog.cellsOf 22 = 1 := by kernel_rfl
theorem pair_of {α : Type} {cs : Array α} (h : cs.size = 2) : ∃ a b, cs = #[a, b] := by
  obtain ⟨l⟩ := cs
  match l, h with
  | [a, b], _ => exact ⟨a, b, rfl⟩
section
variable {H : Type} {enc : TypeId × Value → H} {W : World} {base : Nat} {spare : Nat → Bool} {held : Bool}
theorem open_pair {v : Value} {d : DataW H} {p : List MemPlace} (hv : Value.okWide Try.prog W .any base 27 v) (h : DataW.Trod enc Try.prog W 0 (fun _ => true) true 27 v d p) :
    ∃ x y : Int, v = .agg #[.int .u64 x, .int .u64 y] ∧ (Lit.int .u64 x).wf = true ∧ (Lit.int .u64 y).wf = true ∧ p = [] := by
  have hc : ∃ cs : Array Value, v = .agg cs ∧ cs.size = 2 := by
    simp only [Value.okWide, Try.underlying27] at hv
    obtain ⟨cs, h1, h2, _⟩ := hv
    exact ⟨cs, h1, by rw [h2]; exact cells_two⟩
  obtain ⟨cs, rfl, hs⟩ := hc
  obtain ⟨c0, c1, rfl⟩ := pair_of hs
  obtain ⟨fuel, hf⟩ := h
  obtain ⟨xs, m, _, hp, _, hx, hel⟩ := DataW.trod_array Try.underlying27 hf
  have g0 := hel 0 (by omega)
  have g1 := hel 1 (by omega)
  simp only [cells_u64, Value.cells] at g0 g1
  match xs, hx with
  | [y0, y1], _ =>
    obtain ⟨x, e0, r0, u0⟩ := DataW.trod_int Try.underlying22 (x := y0) (by simpa using g0)
    obtain ⟨y, e1, r1, u1⟩ := DataW.trod_int Try.underlying22 (x := y1) (by simpa using g1)
    simp at e0 e1
    subst e0 e1
    exact ⟨x, y, rfl, u0, u1, by have := congrArg Prod.snd hp; rw [r0, r1] at this; simpa using this⟩
/-- It reads so in whatever world, and needs no place of memory. -/
theorem shut_pair {v : Value} {d : DataW H} (h : DataW.Trod enc Try.prog W 0 (fun _ => true) true 27 v d []) (W' : World) (sp : Nat → Bool) : DataW.Trod enc Try.prog W' 0 sp true 27 v d [] :=
  WideElems.Trod_stays laid_out (by kernel_rfl) (of_decide_eq_true (by kernel_rfl)) h (fun x hx => by cases hx) (fun x hx => by cases hx)
end
end Go.Proofs.Ytdeljahpbanecaa
