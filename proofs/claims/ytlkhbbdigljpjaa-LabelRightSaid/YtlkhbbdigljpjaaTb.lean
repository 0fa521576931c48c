import Derived.Test.YtlkhbbdigljpjaaTa
namespace Go.Proofs.Ytlkhbbdigljpjaa
open Go.ChangeShapes Go.WideShapes Go.ChangeAt Go.RowKit Go.Joins
set_option linter.unusedVariables false
set_option linter.unusedSimpArgs false

theorem cells37 : Try.prog.cellsOf 37 = 1 := by kernel_rfl
section
variable {H : Type} {enc : TypeId × Value → H} {W : World} {base : Nat} {spare : Nat → Bool} {held : Bool}
/-- A label that came in, whatever its numbers are. -/
theorem open_label {v : Value} {d : DataW H} {p : List MemPlace} (hv : Value.okWide Try.prog W .any base 24 v) (h : DataW.Trod enc Try.prog W 0 (fun _ => true) true 24 v d p) :
    ∃ D sv, v = .agg #[.int .i64 D, sv] ∧ ((∃ a c, sv = .slice a 0 c) ∨ (∃ a n c, sv = .slice a n c ∧ 1000 < n ∧ n ≤ maxLen) ∨ ∃ ps, Reads W sv ps ∧ ps.length ≤ 1000) := by
  obtain ⟨v0, v1, y0, y1, m, rfl, rfl, rfl, h0, h1⟩ := open_agg2 Try.underlying24 (by kernel_rfl) cells24 hv h
  obtain ⟨D, e0, hy0, _⟩ := DataW.trod_int Try.underlying3 h0
  simp at e0
  subst e0
  refine ⟨D, v1, rfl, ?_⟩
  rcases DataW.trod_slice Try.underlying22 h1 with ⟨hcs, hx⟩ | ⟨a, len, cap, elems, rest, n, _, hcs, hx, hb, hl, hm, hlen, hel, _, _⟩
  · simp at hcs; subst hcs; exact .inl ⟨_, _, rfl⟩
  · simp at hcs; subst hcs
    by_cases hz : len = 0
    · subst hz; exact .inl ⟨_, _, rfl⟩
    by_cases hbig : 1000 < len
    · exact .inr (.inl ⟨_, _, _, rfl, hbig, by omega⟩)
    right; right
    rw [cells47] at hel
    have each : ∀ i, ∃ p : Nat × Int, i < len → W.cell? (a.add (i * 2)) = some (.int .u32 (p.1 : Int)) ∧ W.cell? ((a.add (i * 2)).add 1) = some (.int .i64 p.2) := by
      intro i
      by_cases hi : i < len
      · have hei := hel i hi
        obtain ⟨y, hy⟩ : ∃ y, elems[i]? = some y := ⟨_, List.getElem?_eq_getElem (by omega)⟩
        rw [hy] at hei
        obtain ⟨cs, hcs, htr⟩ := Option.bind_eq_some_iff.1 hei
        obtain ⟨z0, z1, k, _, hlen2, t0, t1⟩ := trod_struct2 Try.underlying47 htr
        obtain ⟨_, hcl, hcell⟩ := World.cells?_some hcs
        simp only [cells37, cells3] at t0 t1
        match cs, hcl with
        | [x0, x1], _ =>
          obtain ⟨c, e0, _, wc⟩ := DataW.trod_int Try.underlying37 t0
          obtain ⟨l, e1, _, _⟩ := DataW.trod_int Try.underlying3 t1
          simp at e0 e1
          subst e0 e1
          have hc0 : 0 ≤ c := (bounds_u32 wc).1
          refine ⟨(c.toNat, l), fun _ => ⟨?_, ?_⟩⟩
          · have := hcell 0 (by omega)
            rw [Addr.add_zero'] at this
            rw [this]; simp [Int.toNat_of_nonneg hc0]
          · have := hcell 1 (by omega)
            simp at this
            rw [this]
      · exact ⟨(0, 0), fun h => absurd h hi⟩
    obtain ⟨g, hg⟩ := Classical.axiomOfChoice each
    obtain ⟨b, off, spot⟩ := a
    have hspot : spot = none := by
      have := (hg 0 (by omega)).1
      simpa [Addr.add] using World.cell?_spot this
    subst hspot
    have hg' : ∀ i, i < len → W.cell? ⟨b, off + i * 2, none⟩ = some (.int .u32 ((g i).1 : Int)) ∧ W.cell? ⟨b, off + i * 2 + 1, none⟩ = some (.int .i64 (g i).2) := fun i hi => by
      have h1 := hg i hi
      rw [addr_add, addr_add] at h1
      exact h1
    have hbl : b < W.heap.size := by
      have := (hg' 0 (by omega)).1
      unfold World.cell? at this
      cases ho : W.heap[b]? with
      | none => simp [ho] at this
      | some o => exact (Array.getElem?_eq_some_iff.1 ho).1
    have hll : ((List.range len).map g).length = len := by simp
    refine ⟨(List.range len).map g, .inr ⟨b, off, cap, by rw [hll], hbl, by rw [hll]; omega, fun i p hp => ?_⟩, by rw [hll]; omega⟩
    have hi : i < len := by have := (List.getElem?_eq_some_iff.1 hp).1; omega
    have hpi : g i = p := by simpa [hi] using hp
    rw [← hpi]
    exact hg' i hi
end
end Go.Proofs.Ytlkhbbdigljpjaa
