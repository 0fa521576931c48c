/- Arrays of seeds that came in. -/
import Derived.Test.YtmbdglhihakkjaaTa
set_option linter.unusedVariables false
set_option linter.unusedSimpArgs false
namespace Go.Proofs.Ytmbdglhihakkjaa
open Go.ChangeShapes Go.WideShapes Go.ChangeAt Go.RowKit Go.Joins
set_option linter.unusedVariables false
set_option linter.unusedSimpArgs false
section
variable {H : Type} {enc : TypeId × Value → H} {W : World} {base : Nat} {spare : Nat → Bool} {held : Bool}
theorem laidOut : laidOutB Try.prog = true := by kernel_rfl
/-- A seed among others. -/
theorem seed_cells {fuel : Nat} {c0 c1 : Value} {x : DataW H × List MemPlace} (h : DataW.trod enc Try.prog W 0 (fun _ => true) true fuel 24 [c0, c1] = some x) (hz : ∀ n ∈ x.1.weights Try.prog 24, n ≤ reachBytes) :
    ∃ S sa sn sc ls, c0 = .int .i64 S ∧ c1 = .slice sa sn sc ∧ IntsL W (.slice sa sn sc) ls := by
  obtain ⟨y0, y1, n, rfl, _, g0, g1⟩ := trod_struct2 Try.underlying24 h
  have k0 : DataW.trod enc Try.prog W 0 (fun _ => true) true n 3 [c0] = some y0 := by simpa [cells3] using g0
  have k1 : DataW.trod enc Try.prog W 0 (fun _ => true) true n 22 [c1] = some y1 := by
    have : Try.prog.cellsOf 22 = 1 := by kernel_rfl
    simpa [this] using g1
  obtain ⟨S, e0, hy0, _⟩ := DataW.trod_int Try.underlying3 k0
  simp at e0
  subst e0
  rcases open_ints Try.underlying22 Try.underlying3 cells3 k1 with ⟨hcs, hx⟩ | ⟨a, len, cap, zs, hcs, _, hl, hmx, hz1, hx, hcell, hwz⟩
  · simp at hcs; subst hcs; exact ⟨S, none, 0, 0, [], rfl, rfl, .inl ⟨⟨_, _, rfl⟩, rfl⟩⟩
  · simp at hcs; subst hcs
    by_cases h0 : len = 0
    · subst h0; exact ⟨S, some a, 0, cap, [], rfl, rfl, .inl ⟨⟨_, _, rfl⟩, rfl⟩⟩
    · have hw : (lits (H := H) .i64 (zs.take len)).length * 8 ≤ reachBytes := by
        have := hz (((lits (H := H) .i64 (zs.take len)).length + (lits (H := H) .i64 (zs.drop len)).length) * Try.prog.bytesOf 3) (by
          rw [hx]
          simp [DataW.weights, DataW.weightsEach, Try.underlying24, Try.underlying22])
        rw [bytes3] at this
        omega
      have hr : reachBytes < 2 ^ 47 := reachBytes_lt
      have hzl : len ≤ zs.length := by rw [hz1]; split <;> omega
      have hlen : len * 8 < 2 ^ 47 := by
        simp only [lits, List.length_map, List.length_take] at hw
        rw [Nat.min_eq_left hzl] at hw
        omega
      obtain ⟨b, off, spot⟩ := a
      have hspot : spot = none := by simpa [Addr.add] using World.cell?_spot (hcell 0 (by omega))
      subst hspot
      have hc : ∀ j, j < zs.length → W.cell? ⟨b, off + j, none⟩ = some (.int .i64 (zs.getD j 0)) := fun j hj => by rw [← add_plain]; exact hcell j hj
      have hb : b < W.heap.size := by
        have := hc 0 (by omega)
        unfold World.cell? at this
        cases ho : W.heap[b]? with
        | none => simp [ho] at this
        | some o => exact (Array.getElem?_eq_some_iff.1 ho).1
      refine ⟨S, some ⟨b, off, none⟩, len, cap, zs.take len, rfl, rfl, .inr ⟨b, off, cap, len, rfl, by rw [List.length_take]; omega, by omega, hb, fun i x hx => ?_⟩⟩
      have hi : i < len := by have := (List.getElem?_eq_some_iff.1 hx).1; rw [List.length_take] at this; omega
      rw [List.getElem?_take_of_lt hi] at hx
      rw [hc i (by omega), List.getD_eq_getElem?_getD, hx]
      rfl
theorem open_seeds4 {v : Value} {d : DataW H} {p : List MemPlace} (hv : Value.okWide Try.prog W .any base 25 v) (h : DataW.Trod enc Try.prog W 0 (fun _ => true) true 25 v d p) (hz : ∀ n ∈ d.weights Try.prog 25, n ≤ reachBytes) :
    ∃ S0 sa0 sn0 sc0 ls0 S1 sa1 sn1 sc1 ls1 S2 sa2 sn2 sc2 ls2 S3 sa3 sn3 sc3 ls3, v = .agg #[.int .i64 S0, .slice sa0 sn0 sc0, .int .i64 S1, .slice sa1 sn1 sc1, .int .i64 S2, .slice sa2 sn2 sc2, .int .i64 S3, .slice sa3 sn3 sc3] ∧ IntsL W (.slice sa0 sn0 sc0) ls0 ∧ IntsL W (.slice sa1 sn1 sc1) ls1 ∧ IntsL W (.slice sa2 sn2 sc2) ls2 ∧ IntsL W (.slice sa3 sn3 sc3) ls3 := by
  have hc : ∃ cs : Array Value, v = .agg cs ∧ cs.size = 8 := by
    simp only [Value.okWide, Try.underlying25] at hv
    obtain ⟨cs, h1, h2, _⟩ := hv
    exact ⟨cs, h1, by rw [h2]; kernel_rfl⟩
  obtain ⟨cs, rfl, hs⟩ := hc
  obtain ⟨l⟩ := cs
  obtain ⟨fuel, hf⟩ := h
  obtain ⟨xs, m, _, hd, _, hx, hel⟩ := DataW.trod_array Try.underlying25 hf
  have he2 : Try.prog.cellsOf 24 = 2 := by kernel_rfl
  simp only [Prod.mk.injEq] at hd
  obtain ⟨rfl, _⟩ := hd
  match l, hs with
  | [c0, c1, c2, c3, c4, c5, c6, c7], _ =>
    have g0 := hel 0 (by omega)
    have g1 := hel 1 (by omega)
    have g2 := hel 2 (by omega)
    have g3 := hel 3 (by omega)
    simp only [he2, Value.cells] at g0 g1 g2 g3
    match xs, hx with
    | [y0, y1, y2, y3], _ =>
      obtain ⟨S0, sa0, sn0, sc0, ls0, rfl, rfl, i0⟩ := seed_cells (x := y0) (by simpa using g0) (fun n hn => hz n (by simp [DataW.weights, DataW.weightsAll, Try.underlying25, hn]))
      obtain ⟨S1, sa1, sn1, sc1, ls1, rfl, rfl, i1⟩ := seed_cells (x := y1) (by simpa using g1) (fun n hn => hz n (by simp [DataW.weights, DataW.weightsAll, Try.underlying25, hn]))
      obtain ⟨S2, sa2, sn2, sc2, ls2, rfl, rfl, i2⟩ := seed_cells (x := y2) (by simpa using g2) (fun n hn => hz n (by simp [DataW.weights, DataW.weightsAll, Try.underlying25, hn]))
      obtain ⟨S3, sa3, sn3, sc3, ls3, rfl, rfl, i3⟩ := seed_cells (x := y3) (by simpa using g3) (fun n hn => hz n (by simp [DataW.weights, DataW.weightsAll, Try.underlying25, hn]))
      exact ⟨S0, sa0, sn0, sc0, ls0, S1, sa1, sn1, sc1, ls1, S2, sa2, sn2, sc2, ls2, S3, sa3, sn3, sc3, ls3, rfl, i0, i1, i2, i3⟩
theorem open_seeds3 {v : Value} {d : DataW H} {p : List MemPlace} (hv : Value.okWide Try.prog W .any base 41 v) (h : DataW.Trod enc Try.prog W 0 (fun _ => true) true 41 v d p) (hz : ∀ n ∈ d.weights Try.prog 41, n ≤ reachBytes) :
    ∃ S0 sa0 sn0 sc0 ls0 S1 sa1 sn1 sc1 ls1 S2 sa2 sn2 sc2 ls2, v = .agg #[.int .i64 S0, .slice sa0 sn0 sc0, .int .i64 S1, .slice sa1 sn1 sc1, .int .i64 S2, .slice sa2 sn2 sc2] ∧ IntsL W (.slice sa0 sn0 sc0) ls0 ∧ IntsL W (.slice sa1 sn1 sc1) ls1 ∧ IntsL W (.slice sa2 sn2 sc2) ls2 := by
  have hc : ∃ cs : Array Value, v = .agg cs ∧ cs.size = 6 := by
    simp only [Value.okWide, Try.underlying41] at hv
    obtain ⟨cs, h1, h2, _⟩ := hv
    exact ⟨cs, h1, by rw [h2]; kernel_rfl⟩
  obtain ⟨cs, rfl, hs⟩ := hc
  obtain ⟨l⟩ := cs
  obtain ⟨fuel, hf⟩ := h
  obtain ⟨xs, m, _, hd, _, hx, hel⟩ := DataW.trod_array Try.underlying41 hf
  have he2 : Try.prog.cellsOf 24 = 2 := by kernel_rfl
  simp only [Prod.mk.injEq] at hd
  obtain ⟨rfl, _⟩ := hd
  match l, hs with
  | [c0, c1, c2, c3, c4, c5], _ =>
    have g0 := hel 0 (by omega)
    have g1 := hel 1 (by omega)
    have g2 := hel 2 (by omega)
    simp only [he2, Value.cells] at g0 g1 g2
    match xs, hx with
    | [y0, y1, y2], _ =>
      obtain ⟨S0, sa0, sn0, sc0, ls0, rfl, rfl, i0⟩ := seed_cells (x := y0) (by simpa using g0) (fun n hn => hz n (by simp [DataW.weights, DataW.weightsAll, Try.underlying41, hn]))
      obtain ⟨S1, sa1, sn1, sc1, ls1, rfl, rfl, i1⟩ := seed_cells (x := y1) (by simpa using g1) (fun n hn => hz n (by simp [DataW.weights, DataW.weightsAll, Try.underlying41, hn]))
      obtain ⟨S2, sa2, sn2, sc2, ls2, rfl, rfl, i2⟩ := seed_cells (x := y2) (by simpa using g2) (fun n hn => hz n (by simp [DataW.weights, DataW.weightsAll, Try.underlying41, hn]))
      exact ⟨S0, sa0, sn0, sc0, ls0, S1, sa1, sn1, sc1, ls1, S2, sa2, sn2, sc2, ls2, rfl, i0, i1, i2⟩
theorem open_seeds2 {v : Value} {d : DataW H} {p : List MemPlace} (hv : Value.okWide Try.prog W .any base 58 v) (h : DataW.Trod enc Try.prog W 0 (fun _ => true) true 58 v d p) (hz : ∀ n ∈ d.weights Try.prog 58, n ≤ reachBytes) :
    ∃ S0 sa0 sn0 sc0 ls0 S1 sa1 sn1 sc1 ls1, v = .agg #[.int .i64 S0, .slice sa0 sn0 sc0, .int .i64 S1, .slice sa1 sn1 sc1] ∧ IntsL W (.slice sa0 sn0 sc0) ls0 ∧ IntsL W (.slice sa1 sn1 sc1) ls1 := by
  have hc : ∃ cs : Array Value, v = .agg cs ∧ cs.size = 4 := by
    simp only [Value.okWide, Try.underlying58] at hv
    obtain ⟨cs, h1, h2, _⟩ := hv
    exact ⟨cs, h1, by rw [h2]; kernel_rfl⟩
  obtain ⟨cs, rfl, hs⟩ := hc
  obtain ⟨l⟩ := cs
  obtain ⟨fuel, hf⟩ := h
  obtain ⟨xs, m, _, hd, _, hx, hel⟩ := DataW.trod_array Try.underlying58 hf
  have he2 : Try.prog.cellsOf 24 = 2 := by kernel_rfl
  simp only [Prod.mk.injEq] at hd
  obtain ⟨rfl, _⟩ := hd
  match l, hs with
  | [c0, c1, c2, c3], _ =>
    have g0 := hel 0 (by omega)
    have g1 := hel 1 (by omega)
    simp only [he2, Value.cells] at g0 g1
    match xs, hx with
    | [y0, y1], _ =>
      obtain ⟨S0, sa0, sn0, sc0, ls0, rfl, rfl, i0⟩ := seed_cells (x := y0) (by simpa using g0) (fun n hn => hz n (by simp [DataW.weights, DataW.weightsAll, Try.underlying58, hn]))
      obtain ⟨S1, sa1, sn1, sc1, ls1, rfl, rfl, i1⟩ := seed_cells (x := y1) (by simpa using g1) (fun n hn => hz n (by simp [DataW.weights, DataW.weightsAll, Try.underlying58, hn]))
      exact ⟨S0, sa0, sn0, sc0, ls0, S1, sa1, sn1, sc1, ls1, rfl, i0, i1⟩
/-- Whole numbers. -/
theorem bounds_i64 {x : Int} (h : (Lit.int .i64 x).wf = true) : -9223372036854775808 ≤ x ∧ x ≤ 9223372036854775807 := by
  simp [Lit.wf, IntKind.min, IntKind.max, IntKind.signed, IntKind.bits] at h
  omega
theorem bounds_u32 {x : Int} (h : (Lit.int .u32 x).wf = true) : 0 ≤ x ∧ x ≤ 4294967295 := by
  simp [Lit.wf, IntKind.min, IntKind.max, IntKind.signed, IntKind.bits] at h
  omega
theorem open_u32 {v : Value} {d : DataW H} {p : List MemPlace} (hv : Value.okWide Try.prog W .any base 42 v) (h : DataW.Trod enc Try.prog W 0 (fun _ => true) true 42 v d p) : ∃ x : Int, v = .int .u32 x ∧ 0 ≤ x ∧ x ≤ 4294967295 := by
  obtain ⟨y, rfl⟩ := okWide_int Try.underlying42 hv
  obtain ⟨fuel, h⟩ := h
  obtain ⟨x, e0, _, wx⟩ := DataW.trod_int Try.underlying42 h
  simp [Value.cells] at e0
  subst e0
  have := bounds_u32 wx
  exact ⟨_, rfl, this.1, this.2⟩
theorem open_i64 {v : Value} {d : DataW H} {p : List MemPlace} (hv : Value.okWide Try.prog W .any base 3 v) (h : DataW.Trod enc Try.prog W 0 (fun _ => true) true 3 v d p) : ∃ x : Int, v = .int .i64 x ∧ -9223372036854775808 ≤ x ∧ x ≤ 9223372036854775807 := by
  obtain ⟨y, rfl⟩ := okWide_int Try.underlying3 hv
  obtain ⟨fuel, h⟩ := h
  obtain ⟨x, e0, _, wx⟩ := DataW.trod_int Try.underlying3 h
  simp [Value.cells] at e0
  subst e0
  have := bounds_i64 wx
  exact ⟨_, rfl, this.1, this.2⟩
end
end Go.Proofs.Ytmbdglhihakkjaa
