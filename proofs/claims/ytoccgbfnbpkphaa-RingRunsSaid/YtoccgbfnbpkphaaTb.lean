/- Calls that came in. -/
import Derived.Test.YtoccgbfnbpkphaaTa
set_option linter.unusedVariables false
set_option linter.unusedSimpArgs false
namespace Go.Proofs.Ytoccgbfnbpkphaa
open Go.ChangeShapes Go.WideShapes Go.ChangeAt Go.RowKit Go.Joins
set_option linter.unusedVariables false
set_option linter.unusedSimpArgs false
/-- A call, as a law has it. -/
structure Cl where
  k : Int
  A : Option Addr
  l : Nat
  c : Nat
  x : Nat
def Cl.ok (w : World) (y : Cl) : Prop := (-9223372036854775808 ≤ y.k ∧ y.k ≤ 9223372036854775807) ∧ y.x < 18446744073709551616 ∧ ∃ bs : List Nat, bs.length = y.l ∧ y.l ≤ y.c ∧ BR w y.A bs ∧ ∀ z ∈ bs, z < 256
def Cls (w : World) (A : Option Addr) (xs : List Cl) : Prop := ∀ (i : Nat) (y : Cl), xs[i]? = some y → y.ok w ∧ ∃ b off, A = some ⟨b, off, none⟩ ∧ b < w.heap.size ∧
  w.cell? ⟨b, off + i * 3, none⟩ = some (.int .i64 y.k) ∧ w.cell? ⟨b, off + i * 3 + 1, none⟩ = some (.slice y.A y.l y.c) ∧ w.cell? ⟨b, off + i * 3 + 2, none⟩ = some (.int .u64 (y.x : Int))
/-- Calls, as an argument has them. -/
def CameC (w : World) (v : Value) : Prop := ∃ (A : Option Addr) (n c : Nat), v = .slice A n c ∧ (300 < n ∨ ∃ xs : List Cl, xs.length = n ∧ n ≤ 300 ∧ Cls w A xs)
theorem cellsC : Try.prog.cellsOf 35 = 3 := by kernel_rfl
section
variable {H : Type} {enc : TypeId × Value → H} {W : World} {base : Nat} {spare : Nat → Bool} {held : Bool}
theorem call_of {fuel : Nat} {cs : List Value} {y : DataW H × List MemPlace} (h : DataW.trod enc Try.prog W 0 (fun _ => true) true fuel 35 cs = some y) (hl : cs.length = 3) :
    ∃ x : Cl, x.ok W ∧ cs = [.int .i64 x.k, .slice x.A x.l x.c, .int .u64 (x.x : Int)] := by
  obtain ⟨xs, m, _, _, _, hx, hg⟩ := DataW.trod_struct Try.underlying35 h
  have g0 : DataW.trod enc Try.prog W 0 (fun _ => true) true m 3 ((cs.drop 0).take (Try.prog.cellsOf 3)) = xs[0]? := hg 0 _ rfl
  have g1 : DataW.trod enc Try.prog W 0 (fun _ => true) true m 32 ((cs.drop 1).take (Try.prog.cellsOf 32)) = xs[1]? := hg 1 _ rfl
  have g2 : DataW.trod enc Try.prog W 0 (fun _ => true) true m 33 ((cs.drop 2).take (Try.prog.cellsOf 33)) = xs[2]? := hg 2 _ rfl
  rw [cells3] at g0
  rw [cellsB] at g1
  rw [cellsU] at g2
  match cs, hl, xs, hx with
  | [x0, x1, x2], _, [y0, y1, y2], _ =>
    obtain ⟨k, e0, _, w0⟩ := DataW.trod_int Try.underlying3 (x := y0) (by simpa using g0)
    obtain ⟨A, l, c, bs, e1, h1, h2, _, h4, h5, _⟩ := bytes_of (y := y1) (v := x1) (by simpa using g1)
    obtain ⟨u, e2, _, w2⟩ := DataW.trod_int Try.underlying33 (x := y2) (by simpa using g2)
    simp at e0 e2
    subst e0 e1 e2
    have hu := bounds_u64 w2
    refine ⟨⟨k, A, l, c, u.toNat⟩, ⟨bounds_i64 w0, by dsimp only; omega, bs, h1, h2, h4, h5⟩, ?_⟩
    dsimp only
    rw [Int.toNat_of_nonneg hu.1]
theorem open_calls {v : Value} {d : DataW H} {p : List MemPlace} (hv : Value.okWide Try.prog W .any base 22 v) (h : DataW.Trod enc Try.prog W 0 (fun _ => true) true 22 v d p) : CameC W v := by
  obtain ⟨a0, len, cap, rfl⟩ := okWide_slice Try.underlying22 hv
  obtain ⟨fuel, h⟩ := h
  rcases DataW.trod_slice Try.underlying22 h with ⟨hcs, hx⟩ | ⟨a, len', cap', elems, rest, m, _, hcs, hx, hb, hl, hm, hlen, hel, _, _⟩
  · simp [Value.cells] at hcs; obtain ⟨rfl, rfl, rfl⟩ := hcs
    exact ⟨_, _, _, rfl, .inr ⟨[], rfl, by omega, fun i q hi => by simp at hi⟩⟩
  · simp [Value.cells] at hcs; obtain ⟨rfl, el, ec⟩ := hcs; subst el ec
    refine ⟨_, _, _, rfl, ?_⟩
    by_cases hbig : 300 < len
    · exact .inl hbig
    · right
      rw [cellsC] at hel
      obtain ⟨b, off, spot⟩ := a
      have hspot : 0 < len → spot = none := by
        intro h0
        have hei := hel 0 h0
        rw [show elems[0]? = some (elems[0]'(by omega)) from List.getElem?_eq_getElem (by omega)] at hei
        obtain ⟨cs, hcs, htr⟩ := Option.bind_eq_some_iff.1 hei
        obtain ⟨_, hcl, hcell⟩ := World.cells?_some hcs
        have hc0 := hcell 0 (by omega)
        rw [List.getElem?_eq_getElem (by omega)] at hc0
        simpa [Addr.add] using World.cell?_spot hc0
      have each : ∀ i, ∃ x : Cl, i < len → x.ok W ∧ b < W.heap.size ∧
          W.cell? ⟨b, off + i * 3, none⟩ = some (.int .i64 x.k) ∧ W.cell? ⟨b, off + i * 3 + 1, none⟩ = some (.slice x.A x.l x.c) ∧ W.cell? ⟨b, off + i * 3 + 2, none⟩ = some (.int .u64 (x.x : Int)) := by
        intro i
        by_cases hi : i < len
        · have hei := hel i hi
          obtain ⟨y, hy⟩ : ∃ y, elems[i]? = some y := ⟨_, List.getElem?_eq_getElem (by omega)⟩
          rw [hy] at hei
          obtain ⟨cs, hcs, htr⟩ := Option.bind_eq_some_iff.1 hei
          obtain ⟨_, hcl, hcell⟩ := World.cells?_some hcs
          obtain ⟨x, hok, rfl⟩ := call_of htr hcl
          obtain rfl := hspot (by omega)
          have c0 := hcell 0 (by omega)
          have c1 := hcell 1 (by omega)
          have c2 := hcell 2 (by omega)
          simp only [addr_add] at c0 c1 c2
          exact ⟨x, fun _ => ⟨hok, lt_of_cell (v := .int .i64 x.k) (by simpa using c0), by simpa using c0, by simpa using c1, by simpa using c2⟩⟩
        · exact ⟨⟨0, none, 0, 0, 0⟩, fun h => absurd h hi⟩
      obtain ⟨g, hg⟩ := Classical.axiomOfChoice each
      refine ⟨(List.range len).map g, by simp, by omega, fun i q hp => ?_⟩
      have hi : i < len := by have := (List.getElem?_eq_some_iff.1 hp).1; simpa using this
      have hpi : g i = q := by simpa [hi] using hp
      obtain ⟨h0, h1, h2⟩ := hg i hi
      rw [hpi] at h0 h2
      exact ⟨h0, b, off, by rw [hspot (by omega)], h1, h2⟩
end
end Go.Proofs.Ytoccgbfnbpkphaa
