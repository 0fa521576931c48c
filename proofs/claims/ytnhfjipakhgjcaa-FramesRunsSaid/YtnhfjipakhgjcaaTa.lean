/- What came in: bytes, numbers, lists of numbers, of pairs, of calls. -/
import Derived.Test.YtnhfjipakhgjcaaGg
import Derived.Test.YtnhfjipakhgjcaaGi
import Derived.ProofKit
import Derived.OpenShut
import Derived.SizedLaws
import Derived.Lib.SmallJoins
namespace Go.Proofs.Ytnhfjipakhgjcaa
open Go.ChangeShapes Go.WideShapes Go.ChangeAt Go.RowKit Go.Joins
set_option linter.unusedVariables false
set_option linter.unusedSimpArgs false

theorem cells3 : Try.prog.cellsOf 3 = 1 := by kernel_rfl
theorem cells5 : Try.prog.cellsOf 5 = 1 := by kernel_rfl
theorem bytes5 : Try.prog.bytesOf 5 = 1 := by kernel_rfl
theorem cells50 : Try.prog.cellsOf 50 = 2 := by kernel_rfl
theorem cells34 : Try.prog.cellsOf 34 = 6 := by kernel_rfl
theorem cells31 : Try.prog.cellsOf 31 = 1 := by kernel_rfl
theorem cells32 : Try.prog.cellsOf 32 = 1 := by kernel_rfl
theorem laidOut : laidOutB Try.prog = true := by kernel_rfl
/-- Bytes, as an argument has them. -/
def CameB (w : World) (v : Value) : Prop := ∃ (A : Option Addr) (n c : Nat) (bs : List Nat), v = .slice A n c ∧ bs.length = n ∧ n ≤ 140737488351232 ∧ n ≤ c ∧ (A = none → c = 0) ∧ BR w A bs ∧ ∀ x ∈ bs, x < 256
/-- Numbers. -/
def CameN (w : World) (v : Value) : Prop := ∃ (A : Option Addr) (n c : Nat), v = .slice A n c ∧ (100 < n ∨ ∃ xs : List Int, xs.length = n ∧ n ≤ 100 ∧ Nums w A xs)
/-- Pairs. -/
def CameT (w : World) (v : Value) : Prop := ∃ (A : Option Addr) (n c : Nat), v = .slice A n c ∧ (100 < n ∨ ∃ xs : List (Int × Int), xs.length = n ∧ n ≤ 100 ∧ Twos w A xs)
section
variable {H : Type} {enc : TypeId × Value → H} {W : World} {base : Nat} {spare : Nat → Bool} {held : Bool}
theorem open_i64 {v : Value} {d : DataW H} {p : List MemPlace} (hv : Value.okWide Try.prog W .any base 3 v) (h : DataW.Trod enc Try.prog W 0 (fun _ => true) true 3 v d p) : ∃ x : Int, v = .int .i64 x ∧ -9223372036854775808 ≤ x ∧ x ≤ 9223372036854775807 := by
  obtain ⟨y, rfl⟩ := okWide_int Try.underlying3 hv
  obtain ⟨fuel, h⟩ := h
  obtain ⟨x, e0, _, wx⟩ := DataW.trod_int Try.underlying3 h
  simp [Value.cells] at e0
  subst e0
  have := bounds_i64 wx
  exact ⟨_, rfl, this.1, this.2⟩
theorem open_u64 {v : Value} {d : DataW H} {p : List MemPlace} (hv : Value.okWide Try.prog W .any base 31 v) (h : DataW.Trod enc Try.prog W 0 (fun _ => true) true 31 v d p) : ∃ x : Nat, v = .int .u64 x ∧ x < 18446744073709551616 := by
  obtain ⟨y, rfl⟩ := okWide_int Try.underlying31 hv
  obtain ⟨fuel, h⟩ := h
  obtain ⟨x, e0, _, wx⟩ := DataW.trod_int Try.underlying31 h
  simp [Value.cells] at e0
  subst e0
  have := bounds_u64 wx
  exact ⟨y.toNat, by rw [Int.toNat_of_nonneg this.1], by omega⟩
theorem lt_of_cell {b o : Nat} {v : Value} (h : W.cell? ⟨b, o, none⟩ = some v) : b < W.heap.size := by
  unfold World.cell? at h
  cases ho : W.heap[b]? with
  | none => simp [ho] at h
  | some o => exact (Array.getElem?_eq_some_iff.1 ho).1
/-- Bytes of a list of cells, one slice of them. -/
theorem bytes_of {fuel : Nat} {v : Value} {y : DataW H × List MemPlace} (h : DataW.trod enc Try.prog W 0 (fun _ => true) true fuel 32 [v] = some y) : ∃ (A : Option Addr) (n c : Nat) (bs : List Nat), v = .slice A n c ∧ bs.length = n ∧ n ≤ c ∧ (A = none → c = 0) ∧ BR W A bs ∧ (∀ x ∈ bs, x < 256) ∧ ((∀ m ∈ y.1.weights Try.prog 32, m ≤ reachBytes) → n ≤ 140737488351232) := by
  rcases open_ints Try.underlying32 Try.underlying5 cells5 h with ⟨hcs, hx⟩ | ⟨a, len, cap, zs, hcs, _, hl, hmx, hz1, hx, hcell, hwz⟩
  · simp at hcs
    exact ⟨none, 0, 0, [], hcs, rfl, by omega, fun _ => rfl, BR.nil W _, by simp, fun _ => by omega⟩
  · simp at hcs
    by_cases h0 : len = 0
    · subst h0
      exact ⟨some a, 0, cap, [], hcs, rfl, by omega, (fun e => by cases e), BR.nil W _, by simp, fun _ => by omega⟩
    · have hzl : len ≤ zs.length := by rw [hz1]; split <;> omega
      obtain ⟨b, off, spot⟩ := a
      have hspot : spot = none := by simpa [Addr.add] using World.cell?_spot (hcell 0 (by omega))
      subst hspot
      have hc : ∀ j, j < zs.length → W.cell? ⟨b, off + j, none⟩ = some (.int .u8 (zs.getD j 0)) := fun j hj => by rw [← add_plain]; exact hcell j hj
      have hb := lt_of_cell (hc 0 (by omega))
      have hpos : ∀ n ∈ zs, 0 ≤ n ∧ n ≤ 255 := fun n hn => bounds_u8 (hwz n hn)
      refine ⟨_, len, cap, (zs.take len).map Int.toNat, hcs, by simp; omega, hl, (fun e => by cases e), fun i x hx => ?_, fun x hx => ?_, fun hz => ?_⟩
      · rw [List.getElem?_map] at hx
        cases hy : (zs.take len)[i]? with
        | none => rw [hy] at hx; cases hx
        | some y =>
          rw [hy] at hx
          obtain rfl : y.toNat = x := by simpa using hx
          have hi : i < len := by have := (List.getElem?_eq_some_iff.1 hy).1; rw [List.length_take] at this; omega
          rw [List.getElem?_take_of_lt hi] at hy
          refine ⟨b, off, rfl, hb, ?_⟩
          rw [hc i (by omega), List.getD_eq_getElem?_getD, hy]
          have := hpos y (List.mem_of_getElem? hy)
          simp [Int.toNat_of_nonneg this.1]
      · obtain ⟨y, hy, rfl⟩ := List.mem_map.1 hx
        have := hpos y (List.mem_of_mem_take hy)
        omega
      · have := hz (((lits (H := H) .u8 (zs.take len)).length + (lits (H := H) .u8 (zs.drop len)).length) * Try.prog.bytesOf 5) (by
          rw [hx]
          simp [DataW.weights, Try.underlying32])
        rw [bytes5] at this
        simp only [lits, List.length_map, List.length_take] at this
        rw [Nat.min_eq_left hzl] at this
        unfold reachBytes at this
        omega
/-- Bytes that came in. -/
theorem open_bytes {v : Value} {d : DataW H} {p : List MemPlace} (hv : Value.okWide Try.prog W .any base 32 v) (h : DataW.Trod enc Try.prog W 0 (fun _ => true) true 32 v d p) (hz : ∀ n ∈ d.weights Try.prog 32, n ≤ reachBytes) : CameB W v := by
  obtain ⟨a0, len, cap, rfl⟩ := okWide_slice Try.underlying32 hv
  obtain ⟨fuel, h⟩ := h
  obtain ⟨A, n, c, bs, e, h1, h2, h3, h4, h5, h6⟩ := bytes_of (y := (d, p)) (by simpa [Value.cells] using h)
  exact ⟨A, n, c, bs, e, h1, h6 hz, h2, h3, h4, h5⟩
/-- Numbers that came in. -/
theorem open_nums {v : Value} {d : DataW H} {p : List MemPlace} (hv : Value.okWide Try.prog W .any base 43 v) (h : DataW.Trod enc Try.prog W 0 (fun _ => true) true 43 v d p) : CameN W v := by
  obtain ⟨a0, len, cap, rfl⟩ := okWide_slice Try.underlying43 hv
  obtain ⟨fuel, h⟩ := h
  rcases open_ints Try.underlying43 Try.underlying3 cells3 h with ⟨hcs, hx⟩ | ⟨a, len', cap', zs, hcs, _, hl, hmx, hz1, hx, hcell, hwz⟩
  · simp [Value.cells] at hcs; obtain ⟨rfl, rfl, rfl⟩ := hcs
    exact ⟨_, _, _, rfl, .inr ⟨[], rfl, by omega, fun i q hi => by simp at hi⟩⟩
  · simp [Value.cells] at hcs; obtain ⟨rfl, el, ec⟩ := hcs; subst el ec
    refine ⟨_, _, _, rfl, ?_⟩
    by_cases hbig : 100 < len
    · exact .inl hbig
    · refine .inr ⟨zs.take len, ?_, by omega, fun i q hi => ?_⟩
      · rw [List.length_take, hz1]; split <;> omega
      · have hzl : len ≤ zs.length := by rw [hz1]; split <;> omega
        have hil : i < len := by have := (List.getElem?_eq_some_iff.1 hi).1; rw [List.length_take] at this; omega
        rw [List.getElem?_take_of_lt hil] at hi
        obtain ⟨b, off, spot⟩ := a
        have hspot : spot = none := by simpa [Addr.add] using World.cell?_spot (hcell 0 (by omega))
        subst hspot
        have hc := hcell i (by omega)
        rw [add_plain, List.getD_eq_getElem?_getD, hi] at hc
        have hw := bounds_i64 (hwz q (List.mem_of_getElem? hi))
        exact ⟨b, off, rfl, lt_of_cell hc, hc, hw.1, hw.2⟩
/-- Pairs that came in. -/
theorem open_twos {v : Value} {d : DataW H} {p : List MemPlace} (hv : Value.okWide Try.prog W .any base 48 v) (h : DataW.Trod enc Try.prog W 0 (fun _ => true) true 48 v d p) : CameT W v := by
  obtain ⟨a0, len, cap, rfl⟩ := okWide_slice Try.underlying48 hv
  obtain ⟨fuel, h⟩ := h
  rcases DataW.trod_slice Try.underlying48 h with ⟨hcs, hx⟩ | ⟨a, len', cap', elems, rest, m, _, hcs, hx, hb, hl, hm, hlen, hel, _, _⟩
  · simp [Value.cells] at hcs; obtain ⟨rfl, rfl, rfl⟩ := hcs
    exact ⟨_, _, _, rfl, .inr ⟨[], rfl, by omega, fun i q hi => by simp at hi⟩⟩
  · simp [Value.cells] at hcs; obtain ⟨rfl, el, ec⟩ := hcs; subst el ec
    refine ⟨_, _, _, rfl, ?_⟩
    by_cases hbig : 100 < len
    · exact .inl hbig
    · right
      rw [cells50] at hel
      obtain ⟨b, off, spot⟩ := a
      have hspot : 0 < len → spot = none := by
        intro h0
        have hei := hel 0 h0
        rw [show elems[0]? = some (elems[0]'(by omega)) from List.getElem?_eq_getElem (by omega)] at hei
        obtain ⟨cs, hcs, htr⟩ := Option.bind_eq_some_iff.1 hei
        obtain ⟨_, hcl, hcell⟩ := World.cells?_some hcs
        have hc0 := hcell 0 (by omega)
        rw [List.getElem?_eq_getElem (by omega)] at hc0
        simpa [Addr.add] using World.cell?_spot hc0
      have each : ∀ i, ∃ q : Int × Int, i < len → b < W.heap.size ∧ W.cell? ⟨b, off + i * 2, none⟩ = some (.int .i64 q.1) ∧ W.cell? ⟨b, off + i * 2 + 1, none⟩ = some (.int .i64 q.2) ∧ (-9223372036854775808 ≤ q.1 ∧ q.1 ≤ 9223372036854775807) ∧ -9223372036854775808 ≤ q.2 ∧ q.2 ≤ 9223372036854775807 := by
        intro i
        by_cases hi : i < len
        · have hei := hel i hi
          obtain ⟨y, hy⟩ : ∃ y, elems[i]? = some y := ⟨_, List.getElem?_eq_getElem (by omega)⟩
          rw [hy] at hei
          obtain ⟨cs, hcs, htr⟩ := Option.bind_eq_some_iff.1 hei
          obtain ⟨xs, k, _, _, _, hx2, hg⟩ := DataW.trod_array Try.underlying50 htr
          obtain ⟨_, hcl, hcell⟩ := World.cells?_some hcs
          have g0 := hg 0 (by omega)
          have g1 := hg 1 (by omega)
          simp only [cells3] at g0 g1
          match cs, hcl, xs, hx2 with
          | [x0, x1], _, [y0, y1], _ =>
            obtain ⟨S, e0, _, w0⟩ := DataW.trod_int Try.underlying3 (x := y0) (by simpa using g0)
            obtain ⟨S1, e1, _, w1⟩ := DataW.trod_int Try.underlying3 (x := y1) (by simpa using g1)
            simp at e0 e1
            subst e0 e1
            have c0 := hcell 0 (by omega)
            have c1 := hcell 1 (by omega)
            obtain rfl := hspot (by omega)
            simp only [addr_add] at c0 c1
            refine ⟨(S, S1), fun _ => ⟨lt_of_cell c0, by simpa using c0, by simpa using c1, bounds_i64 w0, bounds_i64 w1⟩⟩
        · exact ⟨(0, 0), fun h => absurd h hi⟩
      obtain ⟨g, hg⟩ := Classical.axiomOfChoice each
      refine ⟨(List.range len).map g, by simp, by omega, fun i q hp => ?_⟩
      have hi : i < len := by have := (List.getElem?_eq_some_iff.1 hp).1; simpa using this
      have hpi : g i = q := by simpa [hi] using hp
      obtain ⟨h1, h2, h3, h4, h5⟩ := hg i hi
      rw [hpi] at h2 h3 h4 h5
      exact ⟨b, off, by rw [hspot (by omega)], h1, h2, h3, h4, h5⟩
end
/-- The laws, over what came in. -/
theorem zero_law (v : Value) (off : Int) (w : World) (h : CameB w v) (o : -9223372036854775808 ≤ off ∧ off ≤ 9223372036854775807) : Calls Try.prog 4 #[v, .int .i64 off] w fun e w' => e = .returned (.bool true) ∧ Below w.heap.size w w' := by
  obtain ⟨A, n, c, bs, rfl, h1, h2, h3, h4, h5, h6⟩ := h
  exact zero_all A n c bs off w h1 h2 h3 h4 h5 h6 o.1 o.2
theorem least_law (n : Int) (v : Value) (w : World) (h : CameN w v) (o : -9223372036854775808 ≤ n ∧ n ≤ 9223372036854775807) : Calls Try.prog 6 #[.int .i64 n, v] w fun e w' => e = .returned (.bool true) ∧ Below w.heap.size w w' := by
  obtain ⟨A, l, c, rfl, h | ⟨xs, h1, h2, h3⟩⟩ := h
  · exact least_many n A l c w h o.1 o.2
  · exact least_all n A l c xs w h1 h2 h3 o.1 o.2
theorem bytes_law (v : Value) (off k : Int) (w : World) (h : CameT w v) (o : -9223372036854775808 ≤ off ∧ off ≤ 9223372036854775807) (q : -9223372036854775808 ≤ k ∧ k ≤ 9223372036854775807) : Calls Try.prog 7 #[v, .int .i64 off, .int .i64 k] w fun e w' => e = .returned (.bool true) ∧ Below w.heap.size w w' := by
  obtain ⟨A, l, c, rfl, h | ⟨xs, h1, h2, h3⟩⟩ := h
  · exact bytes_many A l c off k w h
  · exact bytes_all A l c xs off k w h1 h2 h3 o.1 o.2 q.1 q.2
end Go.Proofs.Ytnhfjipakhgjcaa
