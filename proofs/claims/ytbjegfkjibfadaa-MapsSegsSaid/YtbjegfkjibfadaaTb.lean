/- Maps that came in. -/
import Derived.Test.YtbjegfkjibfadaaMe
import Derived.Test.YtbjegfkjibfadaaVt
set_option linter.unusedVariables false
set_option linter.unusedSimpArgs false
namespace Go.Proofs.Ytbjegfkjibfadaa
open Go.ChangeShapes Go.WideShapes Go.ChangeAt Go.RowKit Go.Joins
set_option linter.unusedVariables false
set_option linter.unusedSimpArgs false
/-- A map, as a law has it. -/
def Mp.In (m : Mp) : Prop := Bi m.a ∧ (0 ≤ m.s ∧ m.s ≤ 18446744073709551615) ∧ Bi m.f ∧ Bi m.n
/-- Maps, as an argument has them. -/
def CameM (w : World) (v : Value) : Prop := ∃ (A : Option Addr) (n c : Nat) (xs : List Mp), v = .slice A n c ∧ n ≤ c ∧ c ≤ maxLen ∧ xs.length = n ∧ LV 5 encM w A xs ∧ ∀ m ∈ xs, m.In
theorem cellsM : Try.prog.cellsOf 26 = 5 := by kernel_rfl
theorem cellsT : Try.prog.cellsOf 4 = 1 := by kernel_rfl
section
variable {H : Type} {enc : TypeId × Value → H} {W : World} {base : Nat} {spare : Nat → Bool} {held : Bool}
theorem map_of {fuel : Nat} {cs : List Value} {y : DataW H × List MemPlace} (h : DataW.trod enc Try.prog W 0 (fun _ => true) true fuel 26 cs = some y) (hl : cs.length = 5) :
    ∃ m : Mp, m.In ∧ cs = encM m := by
  obtain ⟨xs, m, _, _, _, hx, hg⟩ := DataW.trod_struct Try.underlying26 h
  have g0 : DataW.trod enc Try.prog W 0 (fun _ => true) true m 3 ((cs.drop 0).take (Try.prog.cellsOf 3)) = xs[0]? := hg 0 _ rfl
  have g1 : DataW.trod enc Try.prog W 0 (fun _ => true) true m 24 ((cs.drop 1).take (Try.prog.cellsOf 24)) = xs[1]? := hg 1 _ rfl
  have g2 : DataW.trod enc Try.prog W 0 (fun _ => true) true m 3 ((cs.drop 2).take (Try.prog.cellsOf 3)) = xs[2]? := hg 2 _ rfl
  have g3 : DataW.trod enc Try.prog W 0 (fun _ => true) true m 3 ((cs.drop 3).take (Try.prog.cellsOf 3)) = xs[3]? := hg 3 _ rfl
  have g4 : DataW.trod enc Try.prog W 0 (fun _ => true) true m 4 ((cs.drop 4).take (Try.prog.cellsOf 4)) = xs[4]? := hg 4 _ rfl
  rw [cellsI] at g0 g2 g3
  rw [cellsU] at g1
  rw [cellsT] at g4
  match cs, hl, xs, hx with
  | [x0, x1, x2, x3, x4], _, [y0, y1, y2, y3, y4], _ =>
    obtain ⟨k0, e0, _, w0⟩ := DataW.trod_int Try.underlying3 (x := y0) (by simpa using g0)
    obtain ⟨k1, e1, _, w1⟩ := DataW.trod_int Try.underlying24 (x := y1) (by simpa using g1)
    obtain ⟨k2, e2, _, w2⟩ := DataW.trod_int Try.underlying3 (x := y2) (by simpa using g2)
    obtain ⟨k3, e3, _, w3⟩ := DataW.trod_int Try.underlying3 (x := y3) (by simpa using g3)
    obtain ⟨k4, e4, _⟩ := DataW.trod_bool Try.underlying4 (x := y4) (by simpa using g4)
    simp at e0 e1 e2 e3 e4
    subst e0 e1 e2 e3 e4
    exact ⟨⟨k0, k1, k2, k3, k4⟩, ⟨bounds_i64 w0, bounds_u64 w1, bounds_i64 w2, bounds_i64 w3⟩, rfl⟩
theorem open_maps {v : Value} {d : DataW H} {p : List MemPlace} (hv : Value.okWide Try.prog W .any base 22 v) (h : DataW.Trod enc Try.prog W 0 (fun _ => true) true 22 v d p) : CameM W v := by
  obtain ⟨a0, len, cap, rfl⟩ := okWide_slice Try.underlying22 hv
  obtain ⟨fuel, h⟩ := h
  rcases DataW.trod_slice Try.underlying22 h with ⟨hcs, hx⟩ | ⟨a, len', cap', elems, rest, m, _, hcs, hx, hb, hl, hm, hlen, hel, _, _⟩
  · simp [Value.cells] at hcs; obtain ⟨rfl, rfl, rfl⟩ := hcs
    exact ⟨_, _, _, [], rfl, Nat.le_refl _, Nat.zero_le _, rfl, LV.nil _ _, by simp⟩
  · simp [Value.cells] at hcs; obtain ⟨rfl, el, ec⟩ := hcs; subst el ec
    rw [cellsM] at hel
    obtain ⟨b, off, spot⟩ := a
    have hspot : 0 < len → spot = none := by
      intro h0
      have hei := hel 0 h0
      rw [show elems[0]? = some (elems[0]'(by omega)) from List.getElem?_eq_getElem (by omega)] at hei
      obtain ⟨cs, hcs, htr⟩ := Option.bind_eq_some_iff.1 hei
      obtain ⟨_, hcl, hcell⟩ := World.cells?_some hcs
      have hc0 := hcell 0 (by omega)
      rw [List.getElem?_eq_getElem (by omega)] at hc0
      simpa [Addr.add] using World.cell?_spot hc0
    have each : ∀ i, ∃ x : Mp, i < len → x.In ∧ b < W.heap.size ∧ ∀ (j : Nat) (u : Value), (encM x)[j]? = some u → W.cell? ⟨b, off + i * 5 + j, none⟩ = some u := by
      intro i
      by_cases hi : i < len
      · have hei := hel i hi
        obtain ⟨y, hy⟩ : ∃ y, elems[i]? = some y := ⟨_, List.getElem?_eq_getElem (by omega)⟩
        rw [hy] at hei
        obtain ⟨cs, hcs, htr⟩ := Option.bind_eq_some_iff.1 hei
        obtain ⟨_, hcl, hcell⟩ := World.cells?_some hcs
        obtain ⟨x, hok, rfl⟩ := map_of htr hcl
        obtain rfl := hspot (by omega)
        have hall : ∀ (j : Nat) (u : Value), (encM x)[j]? = some u → W.cell? ⟨b, off + i * 5 + j, none⟩ = some u := fun j u hu => by
          have hj := (List.getElem?_eq_some_iff.1 hu).1
          have hc := hcell j (by omega)
          simp only [addr_add] at hc
          rw [← hu, ← hc]
        have c0 := hall 0 (.int .i64 x.a) rfl
        exact ⟨x, fun _ => ⟨hok, lt_of_cell c0, hall⟩⟩
      · exact ⟨⟨0, 0, 0, 0, false⟩, fun h => absurd h hi⟩
    obtain ⟨g, hg⟩ := Classical.axiomOfChoice each
    refine ⟨_, _, _, (List.range len).map g, rfl, hl, hm, by simp, fun i q hp => ?_, fun q hq => ?_⟩
    · have hi : i < len := by have := (List.getElem?_eq_some_iff.1 hp).1; simpa using this
      have hpi : g i = q := by simpa [hi] using hp
      obtain ⟨h0, h1, h2⟩ := hg i hi
      rw [hpi] at h0 h2
      exact ⟨b, off, by rw [hspot (by omega)], h1, h2⟩
    · obtain ⟨i, hi, rfl⟩ := List.mem_map.1 hq
      exact (hg i (List.mem_range.1 hi)).1
/-- One map that came in. -/
theorem open_map {v : Value} {d : DataW H} {p : List MemPlace} (hv : Value.okWide Try.prog W .any base 26 v) (h : DataW.Trod enc Try.prog W 0 (fun _ => true) true 26 v d p) :
    ∃ m : Mp, m.In ∧ v = .agg #[.int .i64 m.a, .int .u64 m.s, .int .i64 m.f, .int .i64 m.n, .bool m.w] := by
  have hc : ∃ cs : Array Value, v = .agg cs ∧ cs.size = 5 := by
    simp only [Value.okWide, Try.underlying26] at hv
    obtain ⟨cs, h1, h2, _⟩ := hv
    exact ⟨cs, h1, by rw [h2]; exact cellsM⟩
  obtain ⟨cs, rfl, hs⟩ := hc
  obtain ⟨fuel, hf⟩ := h
  obtain ⟨m, hm, he⟩ := map_of (by simpa [Value.cells] using hf) (by simpa using hs)
  exact ⟨m, hm, by
    congr 1
    apply Array.ext'
    simpa [encM] using he⟩
end
end Go.Proofs.Ytbjegfkjibfadaa
