/- What came in: numbers, lists of numbers of any length, waits and looks. -/
import Derived.Test.YtdkmddljdggbpaaVa
import Derived.ProofKit
import Derived.OpenShut
import Derived.SizedLaws
import Derived.Lib.SmallJoins
set_option linter.unusedVariables false
set_option linter.unusedSimpArgs false
namespace Go.Proofs.Ytdkmddljdggbpaa
open Go.ChangeShapes Go.WideShapes Go.ChangeAt Go.RowKit Go.Joins
set_option linter.unusedVariables false
set_option linter.unusedSimpArgs false
theorem laidOut : laidOutB Try.prog = true := by kernel_rfl
theorem cellsI : Try.prog.cellsOf 3 = 1 := by kernel_rfl
theorem cellsU : Try.prog.cellsOf 22 = 1 := by kernel_rfl
def inU (x : Nat) : Value := .int .u64 (x : Int)
def Bi (x : Int) : Prop := -9223372036854775808 ≤ x ∧ x ≤ 9223372036854775807
/-- Numbers, as an argument has them. -/
def CameU (w : World) (v : Value) : Prop := ∃ (A : Option Addr) (n c : Nat) (us : List Nat), v = .slice A n c ∧ n ≤ c ∧ c ≤ maxLen ∧ us.length = n ∧ LR inU w A us ∧ ∀ x ∈ us, x < 18446744073709551616
theorem lt_of_cell {w : World} {b o : Nat} {v : Value} (h : w.cell? ⟨b, o, none⟩ = some v) : b < w.heap.size := World.block_lt_of_cell? w _ h
section
variable {H : Type} {enc : TypeId × Value → H} {W : World} {base : Nat} {spare : Nat → Bool} {held : Bool}
theorem open_i64 {v : Value} {d : DataW H} {p : List MemPlace} (hv : Value.okWide Try.prog W .any base 3 v) (h : DataW.Trod enc Try.prog W 0 (fun _ => true) true 3 v d p) : ∃ x : Int, v = .int .i64 x ∧ -9223372036854775808 ≤ x ∧ x ≤ 9223372036854775807 := by
  obtain ⟨y, rfl⟩ := okWide_int Try.underlying3 hv
  obtain ⟨fuel, h⟩ := h
  obtain ⟨x, e0, _, wx⟩ := DataW.trod_int Try.underlying3 h
  simp [Value.cells] at e0
  subst e0
  have := bounds_i64 wx
  exact ⟨_, rfl, this.1, this.2⟩
theorem open_u64 {v : Value} {d : DataW H} {p : List MemPlace} (hv : Value.okWide Try.prog W .any base 22 v) (h : DataW.Trod enc Try.prog W 0 (fun _ => true) true 22 v d p) : ∃ x : Nat, v = .int .u64 (x : Int) ∧ x < 18446744073709551616 := by
  obtain ⟨y, rfl⟩ := okWide_int Try.underlying22 hv
  obtain ⟨fuel, h⟩ := h
  obtain ⟨x, e0, _, wx⟩ := DataW.trod_int Try.underlying22 h
  simp [Value.cells] at e0
  subst e0
  have := bounds_u64 wx
  exact ⟨y.toNat, by rw [Int.toNat_of_nonneg this.1], by omega⟩
theorem open_u64s {v : Value} {d : DataW H} {p : List MemPlace} (hv : Value.okWide Try.prog W .any base 30 v) (h : DataW.Trod enc Try.prog W 0 (fun _ => true) true 30 v d p) : CameU W v := by
  obtain ⟨a0, len, cap, rfl⟩ := okWide_slice Try.underlying30 hv
  obtain ⟨fuel, h⟩ := h
  rcases open_ints Try.underlying30 Try.underlying22 cellsU h with ⟨hcs, hx⟩ | ⟨a, len', cap', zs, hcs, _, hl, hmx, hz1, hx, hcell, hwz⟩
  · simp [Value.cells] at hcs; obtain ⟨rfl, rfl, rfl⟩ := hcs
    exact ⟨_, _, _, [], rfl, Nat.le_refl _, Nat.zero_le _, rfl, LR.nil _ _, by simp⟩
  · simp [Value.cells] at hcs; obtain ⟨rfl, el, ec⟩ := hcs; subst el ec
    have hzl : len ≤ zs.length := by rw [hz1]; split <;> omega
    have hpos : ∀ n ∈ zs, 0 ≤ n ∧ n ≤ 18446744073709551615 := fun n hn => bounds_u64 (hwz n hn)
    refine ⟨_, _, _, (zs.take len).map Int.toNat, rfl, hl, hmx, by rw [List.length_map, List.length_take]; omega, fun i q hi => ?_, fun x hx => ?_⟩
    · rw [List.getElem?_map] at hi
      cases hy : (zs.take len)[i]? with
      | none => rw [hy] at hi; cases hi
      | some y =>
        rw [hy] at hi
        obtain rfl : y.toNat = q := by simpa using hi
        have hil : i < len := by have := (List.getElem?_eq_some_iff.1 hy).1; rw [List.length_take] at this; omega
        rw [List.getElem?_take_of_lt hil] at hy
        obtain ⟨b, off, spot⟩ := a
        have hspot : spot = none := by simpa [Addr.add] using World.cell?_spot (hcell 0 (by omega))
        subst hspot
        have hc := hcell i (by omega)
        rw [addr_add, List.getD_eq_getElem?_getD, hy] at hc
        have hp := hpos y (List.mem_of_getElem? hy)
        exact ⟨b, off, rfl, lt_of_cell hc, by unfold inU; rw [Int.toNat_of_nonneg hp.1]; exact hc⟩
    · obtain ⟨z, hz, rfl⟩ := List.mem_map.1 hx
      have := hpos z (List.mem_of_mem_take hz)
      omega
theorem cellsB : Try.prog.cellsOf 4 = 1 := by kernel_rfl
theorem cellsW : Try.prog.cellsOf 24 = 5 := by kernel_rfl
theorem cellsL : Try.prog.cellsOf 26 = 5 := by kernel_rfl
theorem agg5 {cs : Array Value} (h : cs.size = 5) : ∃ a b c d e, cs = #[a, b, c, d, e] := by
  match cs, h with
  | ⟨[a, b, c, d, e]⟩, _ => exact ⟨a, b, c, d, e, rfl⟩
def Bu (x : Int) : Prop := 0 ≤ x ∧ x ≤ 18446744073709551615
/-- A wait. -/
structure Wt where
  s : Int
  o : Int
  v : Int
  k : Int
  u : Int
def Wt.agg (x : Wt) : Value := .agg #[.int .u64 x.s, .int .i64 x.o, .int .u64 x.v, .int .u64 x.k, .int .u64 x.u]
def Wt.Ok (x : Wt) : Prop := Bu x.v ∧ Bu x.k ∧ Bu x.u
/-- A look. -/
structure Lk where
  t : Bool
  v : Int
  k : Int
  a : Int
  n : Int
def Lk.agg (x : Lk) : Value := .agg #[.bool x.t, .int .u64 x.v, .int .u64 x.k, .int .i64 x.a, .int .u64 x.n]
def CameW (v : Value) : Prop := ∃ x : Wt, v = x.agg ∧ x.Ok
def CameL (v : Value) : Prop := ∃ x : Lk, v = x.agg
theorem open_wait {v : Value} {d : DataW H} {p : List MemPlace} (hv : Value.okWide Try.prog W .any base 24 v) (h : DataW.Trod enc Try.prog W 0 (fun _ => true) true 24 v d p) : CameW v := by
  have hc : ∃ cs : Array Value, v = .agg cs ∧ cs.size = 5 := by
    simp only [Value.okWide, Try.underlying24] at hv
    obtain ⟨cs, h1, h2, _⟩ := hv
    exact ⟨cs, h1, by rw [h2]; exact cellsW⟩
  obtain ⟨cs, rfl, hs⟩ := hc
  obtain ⟨c0, c1, c2, c3, c4, rfl⟩ := agg5 hs
  obtain ⟨fuel, hf⟩ := h
  obtain ⟨xs, m, _, _, _, hx, hg⟩ := DataW.trod_struct Try.underlying24 hf
  have g0 : DataW.trod enc Try.prog W 0 (fun _ => true) true m 22 (([c0, c1, c2, c3, c4].drop 0).take (Try.prog.cellsOf 22)) = xs[0]? := hg 0 _ rfl
  have g1 : DataW.trod enc Try.prog W 0 (fun _ => true) true m 3 (([c0, c1, c2, c3, c4].drop 1).take (Try.prog.cellsOf 3)) = xs[1]? := hg 1 _ rfl
  have g2 : DataW.trod enc Try.prog W 0 (fun _ => true) true m 22 (([c0, c1, c2, c3, c4].drop 2).take (Try.prog.cellsOf 22)) = xs[2]? := hg 2 _ rfl
  have g3 : DataW.trod enc Try.prog W 0 (fun _ => true) true m 22 (([c0, c1, c2, c3, c4].drop 3).take (Try.prog.cellsOf 22)) = xs[3]? := hg 3 _ rfl
  have g4 : DataW.trod enc Try.prog W 0 (fun _ => true) true m 22 (([c0, c1, c2, c3, c4].drop 4).take (Try.prog.cellsOf 22)) = xs[4]? := hg 4 _ rfl
  simp only [cellsU, cellsI] at g0 g1 g2 g3 g4
  match xs, hx with
  | [y0, y1, y2, y3, y4], _ =>
    obtain ⟨x0, e0, _, w0⟩ := DataW.trod_int Try.underlying22 (x := y0) (by simpa using g0)
    obtain ⟨x1, e1, _, w1⟩ := DataW.trod_int Try.underlying3 (x := y1) (by simpa using g1)
    obtain ⟨x2, e2, _, w2⟩ := DataW.trod_int Try.underlying22 (x := y2) (by simpa using g2)
    obtain ⟨x3, e3, _, w3⟩ := DataW.trod_int Try.underlying22 (x := y3) (by simpa using g3)
    obtain ⟨x4, e4, _, w4⟩ := DataW.trod_int Try.underlying22 (x := y4) (by simpa using g4)
    simp at e0 e1 e2 e3 e4
    subst e0 e1 e2 e3 e4
    exact ⟨⟨x0, x1, x2, x3, x4⟩, rfl, bounds_u64 w2, bounds_u64 w3, bounds_u64 w4⟩
theorem open_look {v : Value} {d : DataW H} {p : List MemPlace} (hv : Value.okWide Try.prog W .any base 26 v) (h : DataW.Trod enc Try.prog W 0 (fun _ => true) true 26 v d p) : CameL v := by
  have hc : ∃ cs : Array Value, v = .agg cs ∧ cs.size = 5 := by
    simp only [Value.okWide, Try.underlying26] at hv
    obtain ⟨cs, h1, h2, _⟩ := hv
    exact ⟨cs, h1, by rw [h2]; exact cellsL⟩
  obtain ⟨cs, rfl, hs⟩ := hc
  obtain ⟨c0, c1, c2, c3, c4, rfl⟩ := agg5 hs
  obtain ⟨fuel, hf⟩ := h
  obtain ⟨xs, m, _, _, _, hx, hg⟩ := DataW.trod_struct Try.underlying26 hf
  have g0 : DataW.trod enc Try.prog W 0 (fun _ => true) true m 4 (([c0, c1, c2, c3, c4].drop 0).take (Try.prog.cellsOf 4)) = xs[0]? := hg 0 _ rfl
  have g1 : DataW.trod enc Try.prog W 0 (fun _ => true) true m 22 (([c0, c1, c2, c3, c4].drop 1).take (Try.prog.cellsOf 22)) = xs[1]? := hg 1 _ rfl
  have g2 : DataW.trod enc Try.prog W 0 (fun _ => true) true m 22 (([c0, c1, c2, c3, c4].drop 2).take (Try.prog.cellsOf 22)) = xs[2]? := hg 2 _ rfl
  have g3 : DataW.trod enc Try.prog W 0 (fun _ => true) true m 3 (([c0, c1, c2, c3, c4].drop 3).take (Try.prog.cellsOf 3)) = xs[3]? := hg 3 _ rfl
  have g4 : DataW.trod enc Try.prog W 0 (fun _ => true) true m 22 (([c0, c1, c2, c3, c4].drop 4).take (Try.prog.cellsOf 22)) = xs[4]? := hg 4 _ rfl
  simp only [cellsU, cellsI, cellsB] at g0 g1 g2 g3 g4
  match xs, hx with
  | [y0, y1, y2, y3, y4], _ =>
    obtain ⟨x0, e0, _⟩ := DataW.trod_bool Try.underlying4 (x := y0) (by simpa using g0)
    obtain ⟨x1, e1, _, w1⟩ := DataW.trod_int Try.underlying22 (x := y1) (by simpa using g1)
    obtain ⟨x2, e2, _, w2⟩ := DataW.trod_int Try.underlying22 (x := y2) (by simpa using g2)
    obtain ⟨x3, e3, _, w3⟩ := DataW.trod_int Try.underlying3 (x := y3) (by simpa using g3)
    obtain ⟨x4, e4, _, w4⟩ := DataW.trod_int Try.underlying22 (x := y4) (by simpa using g4)
    simp at e0 e1 e2 e3 e4
    subst e0 e1 e2 e3 e4
    exact ⟨⟨x0, x1, x2, x3, x4⟩, rfl⟩
end
end Go.Proofs.Ytdkmddljdggbpaa
