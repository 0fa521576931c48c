/- What came in: numbers, lists of numbers of any length. -/
import Derived.Test.YtodionedjokdmaaOl
import Derived.Test.YtodionedjokdmaaVs
import Derived.ProofKit
import Derived.OpenShut
import Derived.SizedLaws
import Derived.Lib.SmallJoins
set_option linter.unusedVariables false
set_option linter.unusedSimpArgs false
namespace Go.Proofs.Ytodionedjokdmaa
open Go.ChangeShapes Go.WideShapes Go.ChangeAt Go.RowKit Go.Joins
set_option linter.unusedVariables false
set_option linter.unusedSimpArgs false
set_option maxRecDepth 100000
theorem laidOut : laidOutB Try.prog = true := by kernel_rfl
theorem cellsI : Try.prog.cellsOf 3 = 1 := by kernel_rfl
theorem cellsU : Try.prog.cellsOf 28 = 1 := by kernel_rfl
def Bi (x : Int) : Prop := -9223372036854775808 ≤ x ∧ x ≤ 9223372036854775807
/-- Numbers, as an argument has them. -/
def CameN (w : World) (v : Value) : Prop := ∃ (A : Option Addr) (n c : Nat) (xs : List Int), v = .slice A n c ∧ n ≤ c ∧ c ≤ maxLen ∧ xs.length = n ∧ LR inI w A xs ∧ ∀ x ∈ xs, Bi x
def CameU (w : World) (v : Value) : Prop := ∃ (A : Option Addr) (n c : Nat) (us : List Nat), v = .slice A n c ∧ n ≤ c ∧ c ≤ maxLen ∧ us.length = n ∧ LR inU w A us ∧ ∀ x ∈ us, x < 18446744073709551616
/-- A call. -/
structure Cl where
  kd : Int
  nm : Nat
  hm : Nat
  wt : Int
  on : Int
structure Cl.Ok (x : Cl) : Prop where
  n : (x.nm : Int) ≤ 18446744073709551615
  h : (x.hm : Int) ≤ 18446744073709551615
def encC (x : Cl) : List Value := [.int .i64 x.kd, inU x.nm, inU x.hm, .int .i64 x.wt, .int .i64 x.on]
def CameC (w : World) (v : Value) : Prop := ∃ (A : Option Addr) (n c : Nat) (xs : List Cl), v = .slice A n c ∧ n ≤ c ∧ c ≤ maxLen ∧ xs.length = n ∧ LV 5 encC w A xs ∧ ∀ x ∈ xs, x.Ok
theorem lt_of_cell {w : World} {b o : Nat} {v : Value} (h : w.cell? ⟨b, o, none⟩ = some v) : b < w.heap.size := World.block_lt_of_cell? w _ h
section
variable {H : Type} {enc : TypeId × Value → H} {W : World} {base : Nat} {spare : Nat → Bool} {held : Bool}
theorem open_i64 {v : Value} {d : DataW H} {p : List MemPlace} (hv : Value.okWide Try.prog W .any base 3 v) (h : DataW.Trod enc Try.prog W 0 (fun _ => true) true 3 v d p) : ∃ x : Int, v = .int .i64 x ∧ -9223372036854775808 ≤ x ∧ x ≤ 9223372036854775807 := by
  obtain ⟨y, rfl⟩ := okWide_int Try.underlying3 hv
  obtain ⟨fuel, h⟩ := h
  obtain ⟨x, e0, _, wx⟩ := DataW.trod_int Try.underlying3 h
  simp [Value.cells] at e0
  subst e0
  have := bounds_i64 wx
  exact ⟨_, rfl, this.1, this.2⟩
theorem open_u64 {v : Value} {d : DataW H} {p : List MemPlace} (hv : Value.okWide Try.prog W .any base 28 v) (h : DataW.Trod enc Try.prog W 0 (fun _ => true) true 28 v d p) : ∃ x : Nat, v = .int .u64 (x : Int) ∧ x < 18446744073709551616 := by
  obtain ⟨y, rfl⟩ := okWide_int Try.underlying28 hv
  obtain ⟨fuel, h⟩ := h
  obtain ⟨x, e0, _, wx⟩ := DataW.trod_int Try.underlying28 h
  simp [Value.cells] at e0
  subst e0
  have := bounds_u64 wx
  exact ⟨y.toNat, by rw [Int.toNat_of_nonneg this.1], by omega⟩
/-- Numbers that came in. -/
theorem open_nums {v : Value} {d : DataW H} {p : List MemPlace} (hv : Value.okWide Try.prog W .any base 38 v) (h : DataW.Trod enc Try.prog W 0 (fun _ => true) true 38 v d p) : CameN W v := by
  obtain ⟨a0, len, cap, rfl⟩ := okWide_slice Try.underlying38 hv
  obtain ⟨fuel, h⟩ := h
  rcases open_ints Try.underlying38 Try.underlying3 cellsI h with ⟨hcs, hx⟩ | ⟨a, len', cap', zs, hcs, _, hl, hmx, hz1, hx, hcell, hwz⟩
  · simp [Value.cells] at hcs; obtain ⟨rfl, rfl, rfl⟩ := hcs
    exact ⟨_, _, _, [], rfl, Nat.le_refl _, Nat.zero_le _, rfl, LR.nil _ _, by simp⟩
  · simp [Value.cells] at hcs; obtain ⟨rfl, el, ec⟩ := hcs; subst el ec
    have hzl : len ≤ zs.length := by rw [hz1]; split <;> omega
    refine ⟨_, _, _, zs.take len, rfl, hl, hmx, by rw [List.length_take]; omega, fun i q hi => ?_, fun x hx => bounds_i64 (hwz x (List.mem_of_mem_take hx))⟩
    have hil : i < len := by have := (List.getElem?_eq_some_iff.1 hi).1; rw [List.length_take] at this; omega
    rw [List.getElem?_take_of_lt hil] at hi
    obtain ⟨b, off, spot⟩ := a
    have hspot : spot = none := by simpa [Addr.add] using World.cell?_spot (hcell 0 (by omega))
    subst hspot
    have hc := hcell i (by omega)
    rw [addr_add, List.getD_eq_getElem?_getD, hi] at hc
    exact ⟨b, off, rfl, lt_of_cell hc, hc⟩
theorem open_u64s {v : Value} {d : DataW H} {p : List MemPlace} (hv : Value.okWide Try.prog W .any base 27 v) (h : DataW.Trod enc Try.prog W 0 (fun _ => true) true 27 v d p) : CameU W v := by
  obtain ⟨a0, len, cap, rfl⟩ := okWide_slice Try.underlying27 hv
  obtain ⟨fuel, h⟩ := h
  rcases open_ints Try.underlying27 Try.underlying28 cellsU h with ⟨hcs, hx⟩ | ⟨a, len', cap', zs, hcs, _, hl, hmx, hz1, hx, hcell, hwz⟩
  · simp [Value.cells] at hcs; obtain ⟨rfl, rfl, rfl⟩ := hcs
    exact ⟨_, _, _, [], rfl, Nat.le_refl _, Nat.zero_le _, rfl, LR.nil _ _, by simp⟩
  · simp [Value.cells] at hcs; obtain ⟨rfl, el, ec⟩ := hcs; subst el ec
    have hzl : len ≤ zs.length := by rw [hz1]; split <;> omega
    have hpos : ∀ n ∈ zs, 0 ≤ n ∧ n ≤ 18446744073709551615 := fun n hn => bounds_u64 (hwz n hn)
    refine ⟨_, _, _, (zs.take len).map Int.toNat, rfl, hl, hmx, by rw [List.length_map, List.length_take]; omega, fun i q hi => ?_, fun x hx => ?_⟩
    · rw [List.getElem?_map] at hi
      cases hy : (zs.take len)[i]? with
      | none => rw [hy] at hi; cases hi
      | some y =>
        rw [hy] at hi
        obtain rfl : y.toNat = q := by simpa using hi
        have hil : i < len := by have := (List.getElem?_eq_some_iff.1 hy).1; rw [List.length_take] at this; omega
        rw [List.getElem?_take_of_lt hil] at hy
        obtain ⟨b, off, spot⟩ := a
        have hspot : spot = none := by simpa [Addr.add] using World.cell?_spot (hcell 0 (by omega))
        subst hspot
        have hc := hcell i (by omega)
        rw [addr_add, List.getD_eq_getElem?_getD, hy] at hc
        have hp := hpos y (List.mem_of_getElem? hy)
        exact ⟨b, off, rfl, lt_of_cell hc, by unfold inU; rw [Int.toNat_of_nonneg hp.1]; exact hc⟩
    · obtain ⟨z, hz, rfl⟩ := List.mem_map.1 hx
      have := hpos z (List.mem_of_mem_take hz)
      omega
theorem cellsC : Try.prog.cellsOf 30 = 5 := by kernel_rfl
theorem call_of {fuel : Nat} {cs : List Value} {y : DataW H × List MemPlace} (h : DataW.trod enc Try.prog W 0 (fun _ => true) true fuel 30 cs = some y) (hl : cs.length = 5) :
    ∃ x : Cl, x.Ok ∧ cs = encC x := by
  obtain ⟨xs, m, _, _, _, hx, hg⟩ := DataW.trod_struct Try.underlying30 h
  have g0 : DataW.trod enc Try.prog W 0 (fun _ => true) true m 3 ((cs.drop 0).take (Try.prog.cellsOf 3)) = xs[0]? := hg 0 _ rfl
  have g1 : DataW.trod enc Try.prog W 0 (fun _ => true) true m 28 ((cs.drop 1).take (Try.prog.cellsOf 28)) = xs[1]? := hg 1 _ rfl
  have g2 : DataW.trod enc Try.prog W 0 (fun _ => true) true m 28 ((cs.drop 2).take (Try.prog.cellsOf 28)) = xs[2]? := hg 2 _ rfl
  have g3 : DataW.trod enc Try.prog W 0 (fun _ => true) true m 3 ((cs.drop 3).take (Try.prog.cellsOf 3)) = xs[3]? := hg 3 _ rfl
  have g4 : DataW.trod enc Try.prog W 0 (fun _ => true) true m 3 ((cs.drop 4).take (Try.prog.cellsOf 3)) = xs[4]? := hg 4 _ rfl
  simp only [cellsU, cellsI] at g0 g1 g2 g3 g4
  match cs, hl, xs, hx with
  | [x0, x1, x2, x3, x4], _, [y0, y1, y2, y3, y4], _ =>
    obtain ⟨k, e0, _, w0⟩ := DataW.trod_int Try.underlying3 (x := y0) (by simpa using g0)
    obtain ⟨p, e1, _, w1⟩ := DataW.trod_int Try.underlying28 (x := y1) (by simpa using g1)
    obtain ⟨q, e2, _, w2⟩ := DataW.trod_int Try.underlying28 (x := y2) (by simpa using g2)
    obtain ⟨r, e3, _, w3⟩ := DataW.trod_int Try.underlying3 (x := y3) (by simpa using g3)
    obtain ⟨s, e4, _, w4⟩ := DataW.trod_int Try.underlying3 (x := y4) (by simpa using g4)
    simp at e0 e1 e2 e3 e4
    subst e0 e1 e2 e3 e4
    have b1 := bounds_u64 w1
    have b2 := bounds_u64 w2
    refine ⟨⟨k, p.toNat, q.toNat, r, s⟩, ⟨by show (p.toNat : Int) ≤ _; omega, by show (q.toNat : Int) ≤ _; omega⟩, ?_⟩
    simp only [encC, inU]
    rw [Int.toNat_of_nonneg b1.1, Int.toNat_of_nonneg b2.1]
theorem open_calls {v : Value} {d : DataW H} {p : List MemPlace} (hv : Value.okWide Try.prog W .any base 22 v) (h : DataW.Trod enc Try.prog W 0 (fun _ => true) true 22 v d p) : CameC W v := by
  obtain ⟨a0, len, cap, rfl⟩ := okWide_slice Try.underlying22 hv
  obtain ⟨fuel, h⟩ := h
  rcases DataW.trod_slice Try.underlying22 h with ⟨hcs, hx⟩ | ⟨a, len', cap', elems, rest, m, _, hcs, hx, hb, hl, hm, hlen, hel, _, _⟩
  · simp [Value.cells] at hcs; obtain ⟨rfl, rfl, rfl⟩ := hcs
    exact ⟨_, _, _, [], rfl, Nat.le_refl _, Nat.zero_le _, rfl, LV.nil _ _, by simp⟩
  · simp [Value.cells] at hcs; obtain ⟨rfl, el, ec⟩ := hcs; subst el ec
    rw [cellsC] at hel
    obtain ⟨b, off, spot⟩ := a
    have hspot : 0 < len → spot = none := by
      intro h0
      have hei := hel 0 h0
      rw [show elems[0]? = some (elems[0]'(by omega)) from List.getElem?_eq_getElem (by omega)] at hei
      obtain ⟨cs, hcs, htr⟩ := Option.bind_eq_some_iff.1 hei
      obtain ⟨_, hcl, hcell⟩ := World.cells?_some hcs
      have hc0 := hcell 0 (by omega)
      rw [List.getElem?_eq_getElem (by omega)] at hc0
      simpa [Addr.add] using World.cell?_spot hc0
    have each : ∀ i, ∃ x : Cl, i < len → x.Ok ∧ b < W.heap.size ∧ ∀ j u, (encC x)[j]? = some u → W.cell? ⟨b, off + i * 5 + j, none⟩ = some u := by
      intro i
      by_cases hi : i < len
      · have hei := hel i hi
        obtain ⟨y, hy⟩ : ∃ y, elems[i]? = some y := ⟨_, List.getElem?_eq_getElem (by omega)⟩
        rw [hy] at hei
        obtain ⟨cs, hcs, htr⟩ := Option.bind_eq_some_iff.1 hei
        obtain ⟨_, hcl, hcell⟩ := World.cells?_some hcs
        obtain ⟨x, hok, rfl⟩ := call_of htr hcl
        obtain rfl := hspot (by omega)
        have hc : ∀ j u, (encC x)[j]? = some u → W.cell? ⟨b, off + i * 5 + j, none⟩ = some u := fun j u hu => by
          have hj : j < 5 := (List.getElem?_eq_some_iff.1 hu).1
          have := hcell j (by omega)
          simp only [addr_add] at this
          rw [this]
          exact hu
        exact ⟨x, fun _ => ⟨hok, lt_of_cell (hc 0 _ rfl), hc⟩⟩
      · exact ⟨⟨0, 0, 0, 0, 0⟩, fun h => absurd h hi⟩
    obtain ⟨g, hg⟩ := Classical.axiomOfChoice each
    refine ⟨_, _, _, (List.range len).map g, rfl, hl, hm, by simp, fun i q hp => ?_, fun x hx => ?_⟩
    · have hi : i < len := by have := (List.getElem?_eq_some_iff.1 hp).1; simpa using this
      have hpi : g i = q := by simpa [hi] using hp
      obtain ⟨_, h1, h2⟩ := hg i hi
      rw [hpi] at h2
      exact ⟨b, off, by rw [hspot (by omega)], h1, h2⟩
    · obtain ⟨i, hi, rfl⟩ := List.mem_map.1 hx
      exact (hg i (by simpa using hi)).1
end
end Go.Proofs.Ytodionedjokdmaa
