/- Calls that came in. -/
import Derived.Test.YtmkjdghjaeolcaaVt
set_option linter.unusedVariables false
set_option linter.unusedSimpArgs false
namespace Go.Proofs.Ytmkjdghjaeolcaa
open Go.ChangeShapes Go.WideShapes Go.ChangeAt Go.RowKit Go.Joins
set_option linter.unusedVariables false
set_option linter.unusedSimpArgs false
/-- A call, as a law has it. -/
structure Cl where
  k : Int
  a : Int
  n : Int
def Cl.ok (x : Cl) : Prop := (-9223372036854775808 ≤ x.k ∧ x.k ≤ 9223372036854775807) ∧ (-9223372036854775808 ≤ x.a ∧ x.a ≤ 9223372036854775807) ∧ (-9223372036854775808 ≤ x.n ∧ x.n ≤ 9223372036854775807)
def Cls (w : World) (A : Option Addr) (xs : List Cl) : Prop := ∀ (i : Nat) (x : Cl), xs[i]? = some x → ∃ b off, A = some ⟨b, off, none⟩ ∧ x.ok ∧ b < w.heap.size ∧
  w.cell? ⟨b, off + i * 3, none⟩ = some (.int .i64 x.k) ∧ w.cell? ⟨b, off + i * 3 + 1, none⟩ = some (.int .i64 x.a) ∧ w.cell? ⟨b, off + i * 3 + 2, none⟩ = some (.int .i64 x.n)
/-- Calls, as an argument has them. -/
def CameC (w : World) (v : Value) : Prop := ∃ (A : Option Addr) (n c : Nat), v = .slice A n c ∧ n ≤ c ∧ c ≤ maxLen ∧ (100 < n ∨ ∃ xs : List Cl, xs.length = n ∧ n ≤ 100 ∧ Cls w A xs)
theorem cells33 : Try.prog.cellsOf 32 = 3 := by kernel_rfl
theorem cells3 : Try.prog.cellsOf 3 = 1 := by kernel_rfl
theorem cells4 : Try.prog.cellsOf 2 = 1 := by kernel_rfl
section
variable {H : Type} {enc : TypeId × Value → H} {W : World} {base : Nat} {spare : Nat → Bool} {held : Bool}
theorem call_of {fuel : Nat} {cs : List Value} {y : DataW H × List MemPlace} (h : DataW.trod enc Try.prog W 0 (fun _ => true) true fuel 32 cs = some y) (hl : cs.length = 3) :
    ∃ x : Cl, x.ok ∧ cs = [.int .i64 x.k, .int .i64 x.a, .int .i64 x.n] := by
  obtain ⟨xs, m, _, _, _, hx, hg⟩ := DataW.trod_struct Try.underlying32 h
  have g0 : DataW.trod enc Try.prog W 0 (fun _ => true) true m 3 ((cs.drop 0).take (Try.prog.cellsOf 3)) = xs[0]? := hg 0 _ rfl
  have g1 : DataW.trod enc Try.prog W 0 (fun _ => true) true m 3 ((cs.drop 1).take (Try.prog.cellsOf 3)) = xs[1]? := hg 1 _ rfl
  have g2 : DataW.trod enc Try.prog W 0 (fun _ => true) true m 2 ((cs.drop 2).take (Try.prog.cellsOf 2)) = xs[2]? := hg 2 _ rfl
  rw [cells3] at g0 g1
  rw [cells4] at g2
  match cs, hl, xs, hx with
  | [x0, x1, x2], _, [y0, y1, y2], _ =>
    obtain ⟨k, e0, _, w0⟩ := DataW.trod_int Try.underlying3 (x := y0) (by simpa using g0)
    obtain ⟨p, e1, _, w1⟩ := DataW.trod_int Try.underlying3 (x := y1) (by simpa using g1)
    obtain ⟨f, e2, _, w2⟩ := DataW.trod_int Try.underlying2 (x := y2) (by simpa using g2)
    simp at e0 e1 e2
    subst e0 e1 e2
    exact ⟨⟨k, p, f⟩, ⟨bounds_i64 w0, bounds_i64 w1, bounds_i64 w2⟩, rfl⟩
theorem open_calls {v : Value} {d : DataW H} {p : List MemPlace} (hv : Value.okWide Try.prog W .any base 22 v) (h : DataW.Trod enc Try.prog W 0 (fun _ => true) true 22 v d p) : CameC W v := by
  obtain ⟨a0, len, cap, rfl⟩ := okWide_slice Try.underlying22 hv
  obtain ⟨fuel, h⟩ := h
  rcases DataW.trod_slice Try.underlying22 h with ⟨hcs, hx⟩ | ⟨a, len', cap', elems, rest, m, _, hcs, hx, hb, hl, hm, hlen, hel, _, _⟩
  · simp [Value.cells] at hcs; obtain ⟨rfl, rfl, rfl⟩ := hcs
    exact ⟨_, _, _, rfl, Nat.le_refl _, Nat.zero_le _, .inr ⟨[], rfl, by omega, fun i q hi => by simp at hi⟩⟩
  · simp [Value.cells] at hcs; obtain ⟨rfl, el, ec⟩ := hcs; subst el ec
    refine ⟨_, _, _, rfl, hl, hm, ?_⟩
    by_cases hbig : 100 < len
    · exact .inl hbig
    · right
      rw [cells33] at hel
      obtain ⟨b, off, spot⟩ := a
      have hspot : 0 < len → spot = none := by
        intro h0
        have hei := hel 0 h0
        rw [show elems[0]? = some (elems[0]'(by omega)) from List.getElem?_eq_getElem (by omega)] at hei
        obtain ⟨cs, hcs, htr⟩ := Option.bind_eq_some_iff.1 hei
        obtain ⟨_, hcl, hcell⟩ := World.cells?_some hcs
        have hc0 := hcell 0 (by omega)
        rw [List.getElem?_eq_getElem (by omega)] at hc0
        simpa [Addr.add] using World.cell?_spot hc0
      have each : ∀ i, ∃ x : Cl, i < len → x.ok ∧ b < W.heap.size ∧
          W.cell? ⟨b, off + i * 3, none⟩ = some (.int .i64 x.k) ∧ W.cell? ⟨b, off + i * 3 + 1, none⟩ = some (.int .i64 x.a) ∧ W.cell? ⟨b, off + i * 3 + 2, none⟩ = some (.int .i64 x.n) := by
        intro i
        by_cases hi : i < len
        · have hei := hel i hi
          obtain ⟨y, hy⟩ : ∃ y, elems[i]? = some y := ⟨_, List.getElem?_eq_getElem (by omega)⟩
          rw [hy] at hei
          obtain ⟨cs, hcs, htr⟩ := Option.bind_eq_some_iff.1 hei
          obtain ⟨_, hcl, hcell⟩ := World.cells?_some hcs
          obtain ⟨x, hok, rfl⟩ := call_of htr hcl
          obtain rfl := hspot (by omega)
          have c0 := hcell 0 (by omega)
          have c1 := hcell 1 (by omega)
          have c2 := hcell 2 (by omega)
          simp only [addr_add] at c0 c1 c2
          exact ⟨x, fun _ => ⟨hok, lt_of_cell (v := .int .i64 x.k) (by simpa using c0), by simpa using c0, by simpa using c1, by simpa using c2⟩⟩
        · exact ⟨⟨0, 0, 0⟩, fun h => absurd h hi⟩
      obtain ⟨g, hg⟩ := Classical.axiomOfChoice each
      refine ⟨(List.range len).map g, by simp, by omega, fun i q hp => ?_⟩
      have hi : i < len := by have := (List.getElem?_eq_some_iff.1 hp).1; simpa using this
      have hpi : g i = q := by simpa [hi] using hp
      obtain ⟨h0, h1, h2⟩ := hg i hi
      rw [hpi] at h0 h2
      exact ⟨b, off, by rw [hspot (by omega)], h0, h1, h2⟩
end
end Go.Proofs.Ytmkjdghjaeolcaa
