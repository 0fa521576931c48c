/- Calls that came in. -/
import Derived.Test.YtkpdgjmeeeddhaaTa
set_option linter.unusedVariables false
set_option linter.unusedSimpArgs false
namespace Go.Proofs.Ytkpdgjmeeeddhaa
open Go.ChangeShapes Go.WideShapes Go.ChangeAt Go.RowKit Go.Joins
set_option linter.unusedVariables false
set_option linter.unusedSimpArgs false
/-- A call, as a law has it. -/
structure Cl where
  k : Int
  h : Int
  o : Int
  n : Int
  a : Int
  x : Nat
  A : Option Addr
  l : Nat
  c : Nat
def Bi (x : Int) : Prop := -9223372036854775808 ≤ x ∧ x ≤ 9223372036854775807
def Cl.ok (w : World) (y : Cl) : Prop := Bi y.k ∧ Bi y.h ∧ Bi y.o ∧ Bi y.n ∧ Bi y.a ∧ y.x < 18446744073709551616 ∧ ∃ bs : List Nat, bs.length = y.l ∧ y.l ≤ y.c ∧ BR w y.A bs ∧ ∀ z ∈ bs, z < 256
def Cl.cs (y : Cl) : List Value := [.int .i64 y.k, .int .i64 y.h, .int .i64 y.o, .int .i64 y.n, .int .i64 y.a, .int .u64 (y.x : Int), .slice y.A y.l y.c]
def Cls (w : World) (A : Option Addr) (xs : List Cl) : Prop := ∀ (i : Nat) (y : Cl), xs[i]? = some y → y.ok w ∧ ∃ b off, A = some ⟨b, off, none⟩ ∧ b < w.heap.size ∧ ∀ (j : Nat) (u : Value), y.cs[j]? = some u → w.cell? ⟨b, off + i * 7 + j, none⟩ = some u
/-- Calls, as an argument has them. -/
def CameC (w : World) (v : Value) : Prop := ∃ (A : Option Addr) (n c : Nat), v = .slice A n c ∧ (120 < n ∨ ∃ xs : List Cl, xs.length = n ∧ n ≤ 120 ∧ Cls w A xs)
theorem cellsC : Try.prog.cellsOf 32 = 7 := by kernel_rfl
section
variable {H : Type} {enc : TypeId × Value → H} {W : World} {base : Nat} {spare : Nat → Bool} {held : Bool}
theorem call_of {fuel : Nat} {cs : List Value} {y : DataW H × List MemPlace} (h : DataW.trod enc Try.prog W 0 (fun _ => true) true fuel 32 cs = some y) (hl : cs.length = 7) :
    ∃ x : Cl, x.ok W ∧ cs = x.cs := by
  obtain ⟨xs, m, _, _, _, hx, hg⟩ := DataW.trod_struct Try.underlying32 h
  have g0 : DataW.trod enc Try.prog W 0 (fun _ => true) true m 3 ((cs.drop 0).take (Try.prog.cellsOf 3)) = xs[0]? := hg 0 _ rfl
  have g1 : DataW.trod enc Try.prog W 0 (fun _ => true) true m 3 ((cs.drop 1).take (Try.prog.cellsOf 3)) = xs[1]? := hg 1 _ rfl
  have g2 : DataW.trod enc Try.prog W 0 (fun _ => true) true m 3 ((cs.drop 2).take (Try.prog.cellsOf 3)) = xs[2]? := hg 2 _ rfl
  have g3 : DataW.trod enc Try.prog W 0 (fun _ => true) true m 3 ((cs.drop 3).take (Try.prog.cellsOf 3)) = xs[3]? := hg 3 _ rfl
  have g4 : DataW.trod enc Try.prog W 0 (fun _ => true) true m 3 ((cs.drop 4).take (Try.prog.cellsOf 3)) = xs[4]? := hg 4 _ rfl
  have g5 : DataW.trod enc Try.prog W 0 (fun _ => true) true m 29 ((cs.drop 5).take (Try.prog.cellsOf 29)) = xs[5]? := hg 5 _ rfl
  have g6 : DataW.trod enc Try.prog W 0 (fun _ => true) true m 30 ((cs.drop 6).take (Try.prog.cellsOf 30)) = xs[6]? := hg 6 _ rfl
  rw [cells3] at g0 g1 g2 g3 g4
  rw [cellsU] at g5
  rw [cellsB] at g6
  match cs, hl, xs, hx with
  | [x0, x1, x2, x3, x4, x5, x6], _, [y0, y1, y2, y3, y4, y5, y6], _ =>
    obtain ⟨k0, e0, _, w0⟩ := DataW.trod_int Try.underlying3 (x := y0) (by simpa using g0)
    obtain ⟨k1, e1, _, w1⟩ := DataW.trod_int Try.underlying3 (x := y1) (by simpa using g1)
    obtain ⟨k2, e2, _, w2⟩ := DataW.trod_int Try.underlying3 (x := y2) (by simpa using g2)
    obtain ⟨k3, e3, _, w3⟩ := DataW.trod_int Try.underlying3 (x := y3) (by simpa using g3)
    obtain ⟨k4, e4, _, w4⟩ := DataW.trod_int Try.underlying3 (x := y4) (by simpa using g4)
    obtain ⟨u, e5, _, w5⟩ := DataW.trod_int Try.underlying29 (x := y5) (by simpa using g5)
    obtain ⟨A, l, c, bs, e6, h1, h2, _, h4, h5, _⟩ := bytes_of (y := y6) (v := x6) (by simpa using g6)
    simp at e0 e1 e2 e3 e4 e5
    subst e0 e1 e2 e3 e4 e5 e6
    have hu := bounds_u64 w5
    refine ⟨⟨k0, k1, k2, k3, k4, u.toNat, A, l, c⟩, ⟨bounds_i64 w0, bounds_i64 w1, bounds_i64 w2, bounds_i64 w3, bounds_i64 w4, by dsimp only; omega, bs, h1, h2, h4, h5⟩, ?_⟩
    unfold Cl.cs
    dsimp only
    rw [Int.toNat_of_nonneg hu.1]
theorem open_calls {v : Value} {d : DataW H} {p : List MemPlace} (hv : Value.okWide Try.prog W .any base 22 v) (h : DataW.Trod enc Try.prog W 0 (fun _ => true) true 22 v d p) : CameC W v := by
  obtain ⟨a0, len, cap, rfl⟩ := okWide_slice Try.underlying22 hv
  obtain ⟨fuel, h⟩ := h
  rcases DataW.trod_slice Try.underlying22 h with ⟨hcs, hx⟩ | ⟨a, len', cap', elems, rest, m, _, hcs, hx, hb, hl, hm, hlen, hel, _, _⟩
  · simp [Value.cells] at hcs; obtain ⟨rfl, rfl, rfl⟩ := hcs
    exact ⟨_, _, _, rfl, .inr ⟨[], rfl, by omega, fun i q hi => by simp at hi⟩⟩
  · simp [Value.cells] at hcs; obtain ⟨rfl, el, ec⟩ := hcs; subst el ec
    refine ⟨_, _, _, rfl, ?_⟩
    by_cases hbig : 120 < len
    · exact .inl hbig
    · right
      rw [cellsC] at hel
      obtain ⟨b, off, spot⟩ := a
      have hspot : 0 < len → spot = none := by
        intro h0
        have hei := hel 0 h0
        rw [show elems[0]? = some (elems[0]'(by omega)) from List.getElem?_eq_getElem (by omega)] at hei
        obtain ⟨cs, hcs, htr⟩ := Option.bind_eq_some_iff.1 hei
        obtain ⟨_, hcl, hcell⟩ := World.cells?_some hcs
        have hc0 := hcell 0 (by omega)
        rw [List.getElem?_eq_getElem (by omega)] at hc0
        simpa [Addr.add] using World.cell?_spot hc0
      have each : ∀ i, ∃ x : Cl, i < len → x.ok W ∧ b < W.heap.size ∧ ∀ (j : Nat) (u : Value), x.cs[j]? = some u → W.cell? ⟨b, off + i * 7 + j, none⟩ = some u := by
        intro i
        by_cases hi : i < len
        · have hei := hel i hi
          obtain ⟨y, hy⟩ : ∃ y, elems[i]? = some y := ⟨_, List.getElem?_eq_getElem (by omega)⟩
          rw [hy] at hei
          obtain ⟨cs, hcs, htr⟩ := Option.bind_eq_some_iff.1 hei
          obtain ⟨_, hcl, hcell⟩ := World.cells?_some hcs
          obtain ⟨x, hok, rfl⟩ := call_of htr hcl
          obtain rfl := hspot (by omega)
          have hall : ∀ (j : Nat) (u : Value), x.cs[j]? = some u → W.cell? ⟨b, off + i * 7 + j, none⟩ = some u := fun j u hu => by
            have hj := (List.getElem?_eq_some_iff.1 hu).1
            have hc := hcell j (by omega)
            simp only [addr_add] at hc
            rw [← hu, ← hc]
          have c0 := hall 0 (.int .i64 x.k) rfl
          exact ⟨x, fun _ => ⟨hok, lt_of_cell c0, hall⟩⟩
        · exact ⟨⟨0, 0, 0, 0, 0, 0, none, 0, 0⟩, fun h => absurd h hi⟩
      obtain ⟨g, hg⟩ := Classical.axiomOfChoice each
      refine ⟨(List.range len).map g, by simp, by omega, fun i q hp => ?_⟩
      have hi : i < len := by have := (List.getElem?_eq_some_iff.1 hp).1; simpa using this
      have hpi : g i = q := by simpa [hi] using hp
      obtain ⟨h0, h1, h2⟩ := hg i hi
      rw [hpi] at h0 h2
      exact ⟨h0, b, off, by rw [hspot (by omega)], h1, h2⟩
end
end Go.Proofs.Ytkpdgjmeeeddhaa
