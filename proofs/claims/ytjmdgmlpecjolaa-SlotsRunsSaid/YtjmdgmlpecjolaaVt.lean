/- What came in: numbers, lists of numbers of any length, slots. -/
import Derived.Test.YtjmdgmlpecjolaaVs
import Derived.ProofKit
import Derived.OpenShut
import Derived.SizedLaws
import Derived.Lib.SmallJoins
set_option linter.unusedVariables false
set_option linter.unusedSimpArgs false
namespace Go.Proofs.Ytjmdgmlpecjolaa
open Go.ChangeShapes Go.WideShapes Go.ChangeAt Go.RowKit Go.Joins
set_option linter.unusedVariables false
set_option linter.unusedSimpArgs false
theorem laidOut : laidOutB Try.prog = true := by kernel_rfl
theorem cellsI : Try.prog.cellsOf 3 = 1 := by kernel_rfl
theorem cellsU : Try.prog.cellsOf 26 = 1 := by kernel_rfl
def inI (x : Int) : Value := .int .i64 x
theorem inI_one (x : Int) : (inI x).oneCell' = true := rfl
def Bi (x : Int) : Prop := -9223372036854775808 ≤ x ∧ x ≤ 9223372036854775807
/-- Numbers, as an argument has them. -/
def CameN (w : World) (v : Value) : Prop := ∃ (A : Option Addr) (n c : Nat) (xs : List Int), v = .slice A n c ∧ n ≤ c ∧ c ≤ maxLen ∧ xs.length = n ∧ LR inI w A xs ∧ ∀ x ∈ xs, Bi x
/-- A slot. -/
structure Sl where
  c : Int
  t : Int
def encS (s : Sl) : List Value := [.int .u64 s.c, .int .i64 s.t]
theorem encS_len (s : Sl) : (encS s).length = 2 := rfl
theorem encS_one (s : Sl) : ∀ u ∈ encS s, u.oneCell' = true := fun u hu => by
  simp only [encS, List.mem_cons, List.not_mem_nil, or_false] at hu
  rcases hu with rfl | rfl <;> rfl
/-- Slots, as an argument has them. -/
def CameS (w : World) (v : Value) : Prop := ∃ (A : Option Addr) (n c : Nat) (xs : List Sl), v = .slice A n c ∧ n ≤ c ∧ c ≤ maxLen ∧ xs.length = n ∧ LV 2 encS w A xs ∧ ∀ x ∈ xs, Bi x.t
theorem lt_of_cell {w : World} {b o : Nat} {v : Value} (h : w.cell? ⟨b, o, none⟩ = some v) : b < w.heap.size := World.block_lt_of_cell? w _ h
section
variable {H : Type} {enc : TypeId × Value → H} {W : World} {base : Nat} {spare : Nat → Bool} {held : Bool}
theorem open_i64 {v : Value} {d : DataW H} {p : List MemPlace} (hv : Value.okWide Try.prog W .any base 3 v) (h : DataW.Trod enc Try.prog W 0 (fun _ => true) true 3 v d p) : ∃ x : Int, v = .int .i64 x ∧ -9223372036854775808 ≤ x ∧ x ≤ 9223372036854775807 := by
  obtain ⟨y, rfl⟩ := okWide_int Try.underlying3 hv
  obtain ⟨fuel, h⟩ := h
  obtain ⟨x, e0, _, wx⟩ := DataW.trod_int Try.underlying3 h
  simp [Value.cells] at e0
  subst e0
  have := bounds_i64 wx
  exact ⟨_, rfl, this.1, this.2⟩
theorem open_u64 {v : Value} {d : DataW H} {p : List MemPlace} (hv : Value.okWide Try.prog W .any base 26 v) (h : DataW.Trod enc Try.prog W 0 (fun _ => true) true 26 v d p) : ∃ x : Int, v = .int .u64 x ∧ 0 ≤ x ∧ x ≤ 18446744073709551615 := by
  obtain ⟨y, rfl⟩ := okWide_int Try.underlying26 hv
  obtain ⟨fuel, h⟩ := h
  obtain ⟨x, e0, _, wx⟩ := DataW.trod_int Try.underlying26 h
  simp [Value.cells] at e0
  subst e0
  have := bounds_u64 wx
  exact ⟨_, rfl, this.1, this.2⟩
/-- Numbers that came in. -/
theorem open_nums {v : Value} {d : DataW H} {p : List MemPlace} (hv : Value.okWide Try.prog W .any base 22 v) (h : DataW.Trod enc Try.prog W 0 (fun _ => true) true 22 v d p) : CameN W v := by
  obtain ⟨a0, len, cap, rfl⟩ := okWide_slice Try.underlying22 hv
  obtain ⟨fuel, h⟩ := h
  rcases open_ints Try.underlying22 Try.underlying3 cellsI h with ⟨hcs, hx⟩ | ⟨a, len', cap', zs, hcs, _, hl, hmx, hz1, hx, hcell, hwz⟩
  · simp [Value.cells] at hcs; obtain ⟨rfl, rfl, rfl⟩ := hcs
    exact ⟨_, _, _, [], rfl, Nat.le_refl _, Nat.zero_le _, rfl, LR.nil _ _, by simp⟩
  · simp [Value.cells] at hcs; obtain ⟨rfl, el, ec⟩ := hcs; subst el ec
    have hzl : len ≤ zs.length := by rw [hz1]; split <;> omega
    refine ⟨_, _, _, zs.take len, rfl, hl, hmx, by rw [List.length_take]; omega, fun i q hi => ?_, fun x hx => bounds_i64 (hwz x (List.mem_of_mem_take hx))⟩
    have hil : i < len := by have := (List.getElem?_eq_some_iff.1 hi).1; rw [List.length_take] at this; omega
    rw [List.getElem?_take_of_lt hil] at hi
    obtain ⟨b, off, spot⟩ := a
    have hspot : spot = none := by simpa [Addr.add] using World.cell?_spot (hcell 0 (by omega))
    subst hspot
    have hc := hcell i (by omega)
    rw [addr_add, List.getD_eq_getElem?_getD, hi] at hc
    exact ⟨b, off, rfl, lt_of_cell hc, hc⟩
theorem cellsS : Try.prog.cellsOf 32 = 2 := by kernel_rfl
theorem slot_of {fuel : Nat} {cs : List Value} {y : DataW H × List MemPlace} (h : DataW.trod enc Try.prog W 0 (fun _ => true) true fuel 32 cs = some y) (hl : cs.length = 2) :
    ∃ x : Sl, Bi x.t ∧ cs = encS x := by
  obtain ⟨xs, m, _, _, _, hx, hg⟩ := DataW.trod_struct Try.underlying32 h
  have g0 : DataW.trod enc Try.prog W 0 (fun _ => true) true m 26 ((cs.drop 0).take (Try.prog.cellsOf 26)) = xs[0]? := hg 0 _ rfl
  have g1 : DataW.trod enc Try.prog W 0 (fun _ => true) true m 3 ((cs.drop 1).take (Try.prog.cellsOf 3)) = xs[1]? := hg 1 _ rfl
  rw [cellsU] at g0
  rw [cellsI] at g1
  match cs, hl, xs, hx with
  | [x0, x1], _, [y0, y1], _ =>
    obtain ⟨k, e0, _, w0⟩ := DataW.trod_int Try.underlying26 (x := y0) (by simpa using g0)
    obtain ⟨p, e1, _, w1⟩ := DataW.trod_int Try.underlying3 (x := y1) (by simpa using g1)
    simp at e0 e1
    subst e0 e1
    exact ⟨⟨k, p⟩, bounds_i64 w1, rfl⟩
theorem open_slots {v : Value} {d : DataW H} {p : List MemPlace} (hv : Value.okWide Try.prog W .any base 24 v) (h : DataW.Trod enc Try.prog W 0 (fun _ => true) true 24 v d p) : CameS W v := by
  obtain ⟨a0, len, cap, rfl⟩ := okWide_slice Try.underlying24 hv
  obtain ⟨fuel, h⟩ := h
  rcases DataW.trod_slice Try.underlying24 h with ⟨hcs, hx⟩ | ⟨a, len', cap', elems, rest, m, _, hcs, hx, hb, hl, hm, hlen, hel, _, _⟩
  · simp [Value.cells] at hcs; obtain ⟨rfl, rfl, rfl⟩ := hcs
    exact ⟨_, _, _, [], rfl, Nat.le_refl _, Nat.zero_le _, rfl, LV.nil _ _, by simp⟩
  · simp [Value.cells] at hcs; obtain ⟨rfl, el, ec⟩ := hcs; subst el ec
    rw [cellsS] at hel
    obtain ⟨b, off, spot⟩ := a
    have hspot : 0 < len → spot = none := by
      intro h0
      have hei := hel 0 h0
      rw [show elems[0]? = some (elems[0]'(by omega)) from List.getElem?_eq_getElem (by omega)] at hei
      obtain ⟨cs, hcs, htr⟩ := Option.bind_eq_some_iff.1 hei
      obtain ⟨_, hcl, hcell⟩ := World.cells?_some hcs
      have hc0 := hcell 0 (by omega)
      rw [List.getElem?_eq_getElem (by omega)] at hc0
      simpa [Addr.add] using World.cell?_spot hc0
    have each : ∀ i, ∃ x : Sl, i < len → Bi x.t ∧ b < W.heap.size ∧ W.cell? ⟨b, off + i * 2, none⟩ = some (.int .u64 x.c) ∧ W.cell? ⟨b, off + i * 2 + 1, none⟩ = some (.int .i64 x.t) := by
      intro i
      by_cases hi : i < len
      · have hei := hel i hi
        obtain ⟨y, hy⟩ : ∃ y, elems[i]? = some y := ⟨_, List.getElem?_eq_getElem (by omega)⟩
        rw [hy] at hei
        obtain ⟨cs, hcs, htr⟩ := Option.bind_eq_some_iff.1 hei
        obtain ⟨_, hcl, hcell⟩ := World.cells?_some hcs
        obtain ⟨x, hok, rfl⟩ := slot_of htr hcl
        obtain rfl := hspot (by omega)
        have c0 := hcell 0 (by omega)
        have c1 := hcell 1 (by omega)
        simp only [addr_add, encS] at c0 c1
        exact ⟨x, fun _ => ⟨hok, lt_of_cell (v := .int .u64 x.c) (by simpa using c0), by simpa using c0, by simpa using c1⟩⟩
      · exact ⟨⟨0, 0⟩, fun h => absurd h hi⟩
    obtain ⟨g, hg⟩ := Classical.axiomOfChoice each
    refine ⟨_, _, _, (List.range len).map g, rfl, hl, hm, by simp, fun i q hp => ?_, fun x hx => ?_⟩
    · have hi : i < len := by have := (List.getElem?_eq_some_iff.1 hp).1; simpa using this
      have hpi : g i = q := by simpa [hi] using hp
      obtain ⟨_, h1, h2, h3⟩ := hg i hi
      rw [hpi] at h2 h3
      refine ⟨b, off, by rw [hspot (by omega)], h1, fun j u hu => ?_⟩
      match j with
      | 0 => obtain rfl : Value.int .u64 q.c = u := by simpa [encS] using hu
             exact h2
      | 1 => obtain rfl : Value.int .i64 q.t = u := by simpa [encS] using hu
             exact h3
      | j + 2 => simp [encS] at hu
    · obtain ⟨i, hi, rfl⟩ := List.mem_map.1 hx
      exact (hg i (by simpa using hi)).1
end
end Go.Proofs.Ytjmdgmlpecjolaa
