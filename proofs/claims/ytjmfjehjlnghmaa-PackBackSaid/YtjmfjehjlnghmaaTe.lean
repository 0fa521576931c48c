import Derived.Test.YtjmfjehjlnghmaaTd
namespace Go.Proofs.Ytjmfjehjlnghmaa
open Go.ChangeShapes Go.WideShapes Go.ChangeAt Go.RowKit Go.Joins
set_option linter.unusedVariables false
set_option linter.unusedSimpArgs false

/-- Seeds, as an argument has them: many of them, or each read. -/
def CameS (w : World) (v : Value) : Prop := ∃ (A : Option Addr) (n c : Nat), v = .slice A n c ∧ (50 < n ∧ n ≤ 140737488351232 ∨ ∃ ss : List (Int × Value), ss.length = n ∧ n ≤ 50 ∧
  ∀ (i : Nat) (S : Int) (sv : Value), ss[i]? = some (S, sv) → ∃ b off, A = some ⟨b, off, none⟩ ∧ b < w.heap.size ∧ w.cell? ⟨b, off + i * 2, none⟩ = some (.int .i64 S) ∧ w.cell? ⟨b, off + i * 2 + 1, none⟩ = some sv ∧ Ints w sv)
theorem weightsAll_mem {H : Type} {P : Program} {e : TypeId} : ∀ {l : List (DataW H)} {d : DataW H}, d ∈ l → ∀ n ∈ d.weights P e, n ∈ DataW.weightsAll P e l
  | [], d, h, n, hn => by cases h
  | x :: r, d, h, n, hn => by
      rw [DataW.weightsAll]
      rcases List.mem_cons.1 h with rfl | h
      · exact List.mem_append_left _ hn
      · exact List.mem_append_right _ (weightsAll_mem h n hn)
theorem bytes27 : Try.prog.bytesOf 27 = 32 := by kernel_rfl
section
variable {H : Type} {enc : TypeId × Value → H} {W : World} {base : Nat} {spare : Nat → Bool} {held : Bool}
theorem ints_of {fuel : Nat} {v1 : Value} {y1 : DataW H × List MemPlace} (h1 : DataW.trod enc Try.prog W 0 (fun _ => true) true fuel 25 [v1] = some y1) (hz : ∀ n ∈ y1.1.weights Try.prog 25, n ≤ reachBytes) : Ints W v1 := by
  rcases open_ints Try.underlying25 Try.underlying3 cells3 h1 with ⟨hcs, hx⟩ | ⟨a, len, cap, zs, hcs, _, hl, hmx, hz1, hx, hcell, hwz⟩
  · simp at hcs; subst hcs; exact .inl ⟨_, _, rfl⟩
  · simp at hcs; subst hcs
    by_cases h0 : len = 0
    · subst h0; exact .inl ⟨_, _, rfl⟩
    · have hw : (lits (H := H) .i64 (zs.take len)).length * 8 ≤ reachBytes := by
        have := hz (((lits (H := H) .i64 (zs.take len)).length + (lits (H := H) .i64 (zs.drop len)).length) * Try.prog.bytesOf 3) (by
          rw [hx]
          simp [DataW.weights, Try.underlying25])
        rw [bytes3] at this
        omega
      have hr : reachBytes < 2 ^ 47 := reachBytes_lt
      have hzl : len ≤ zs.length := by rw [hz1]; split <;> omega
      have hlen : len * 8 < 2 ^ 47 := by
        simp only [lits, List.length_map, List.length_take] at hw
        rw [Nat.min_eq_left hzl] at hw
        omega
      obtain ⟨b, off, spot⟩ := a
      have hspot : spot = none := by simpa [Addr.add] using World.cell?_spot (hcell 0 (by omega))
      subst hspot
      have hc : ∀ j, j < zs.length → W.cell? ⟨b, off + j, none⟩ = some (.int .i64 (zs.getD j 0)) := fun j hj => by rw [← add_plain]; exact hcell j hj
      have hb : b < W.heap.size := by
        have := hc 0 (by omega)
        unfold World.cell? at this
        cases ho : W.heap[b]? with
        | none => simp [ho] at this
        | some o => exact (Array.getElem?_eq_some_iff.1 ho).1
      refine .inr ⟨b, off, cap, len, zs.take len, rfl, by rw [List.length_take]; omega, by omega, hb, fun i x hx => ?_⟩
      have hi : i < len := by have := (List.getElem?_eq_some_iff.1 hx).1; rw [List.length_take] at this; omega
      rw [List.getElem?_take_of_lt hi] at hx
      rw [hc i (by omega), List.getD_eq_getElem?_getD, hx]
      rfl
/-- Seeds that came in. -/
theorem open_seeds {v : Value} {d : DataW H} {p : List MemPlace} (hv : Value.okWide Try.prog W .any base 22 v) (h : DataW.Trod enc Try.prog W 0 (fun _ => true) true 22 v d p) (hz : ∀ n ∈ d.weights Try.prog 22, n ≤ reachBytes) : CameS W v := by
  obtain ⟨a0, len, cap, rfl⟩ := okWide_slice Try.underlying22 hv
  obtain ⟨fuel, h⟩ := h
  rcases DataW.trod_slice Try.underlying22 h with ⟨hcs, hx⟩ | ⟨a, len', cap', elems, rest, m, _, hcs, hx, hb, hl, hm, hlen, hel, _, _⟩
  · simp [Value.cells] at hcs; obtain ⟨rfl, rfl, rfl⟩ := hcs
    exact ⟨none, 0, 0, rfl, .inr ⟨[], rfl, by omega, fun i S sv h => by simp at h⟩⟩
  · simp [Value.cells] at hcs; obtain ⟨rfl, el, ec⟩ := hcs; subst el ec
    have hd : d = .slice (elems.map (·.1)) (rest.map (·.1)) := congrArg Prod.fst hx
    have hw : len ≤ 140737488351232 := by
      have := hz ((elems.map (·.1)).length * 32 + (rest.map (·.1)).length * 32) (by
        rw [hd, DataW.weights, Try.underlying22]
        simp only [bytes27]
        rw [Nat.add_mul]
        exact List.mem_cons_self)
      rw [List.length_map, hlen] at this
      unfold reachBytes at this
      omega
    by_cases hbig : 50 < len
    · exact ⟨_, _, _, rfl, .inl ⟨hbig, hw⟩⟩
    refine ⟨_, _, _, rfl, .inr ?_⟩
    rw [cells29] at hel
    have each : ∀ i, ∃ q : Int × Value, i < len → W.cell? (a.add (i * 2)) = some (.int .i64 q.1) ∧ W.cell? ((a.add (i * 2)).add 1) = some q.2 ∧ Ints W q.2 := by
      intro i
      by_cases hi : i < len
      · have hei := hel i hi
        obtain ⟨y, hy⟩ : ∃ y, elems[i]? = some y := ⟨_, List.getElem?_eq_getElem (by omega)⟩
        rw [hy] at hei
        obtain ⟨cs, hcs, htr⟩ := Option.bind_eq_some_iff.1 hei
        obtain ⟨z0, z1, k, hy1, hlen2, t0, t1⟩ := trod_struct2 Try.underlying27 htr
        obtain ⟨_, hcl, hcell⟩ := World.cells?_some hcs
        have cells25 : Try.prog.cellsOf 25 = 1 := by kernel_rfl
        simp only [cells25, cells3] at t0 t1
        match cs, hcl with
        | [x0, x1], _ =>
          obtain ⟨S, e0, _, _⟩ := DataW.trod_int Try.underlying3 t0
          simp at e0
          subst e0
          have hz1 : ∀ n ∈ z1.1.weights Try.prog 25, n ≤ reachBytes := fun n hn => by
            refine hz n ?_
            rw [hd, DataW.weights, Try.underlying22]
            refine List.mem_cons_of_mem _ (List.mem_append_left _ (weightsAll_mem (d := y.1) (List.mem_map.2 ⟨y, List.mem_of_getElem? hy, rfl⟩) n ?_))
            rw [hy1]
            simp only [DataW.weights, Try.underlying27, DataW.weightsEach]
            simp [DataW.weightsEach, hn]
          refine ⟨(S, x1), fun _ => ⟨?_, ?_, ints_of (by simpa using t1) hz1⟩⟩
          · have := hcell 0 (by omega)
            rw [Addr.add_zero'] at this
            rw [this]; simp
          · have := hcell 1 (by omega)
            simp at this
            rw [this]
      · exact ⟨(0, .slice none 0 0), fun h => absurd h hi⟩
    obtain ⟨g, hg⟩ := Classical.axiomOfChoice each
    by_cases h0 : len = 0
    · subst h0
      exact ⟨[], rfl, by omega, fun i S sv h => by simp at h⟩
    obtain ⟨b, off, spot⟩ := a
    have hspot : spot = none := by
      have := (hg 0 (by omega)).1
      simpa [Addr.add] using World.cell?_spot this
    subst hspot
    have hg' : ∀ i, i < len → W.cell? ⟨b, off + i * 2, none⟩ = some (.int .i64 (g i).1) ∧ W.cell? ⟨b, off + i * 2 + 1, none⟩ = some (g i).2 ∧ Ints W (g i).2 := fun i hi => by
      have h1 := hg i hi
      rw [addr_add, addr_add] at h1
      exact h1
    have hbl : b < W.heap.size := by
      have := (hg' 0 (by omega)).1
      unfold World.cell? at this
      cases ho : W.heap[b]? with
      | none => simp [ho] at this
      | some o => exact (Array.getElem?_eq_some_iff.1 ho).1
    have hll : ((List.range len).map g).length = len := by simp
    refine ⟨(List.range len).map g, hll, by omega, fun i S sv hp => ?_⟩
    have hi : i < len := by have := (List.getElem?_eq_some_iff.1 hp).1; omega
    have hpi : g i = (S, sv) := by simpa [hi] using hp
    have := hg' i hi
    rw [hpi] at this
    exact ⟨b, off, rfl, hbl, this⟩
end
end Go.Proofs.Ytjmfjehjlnghmaa
