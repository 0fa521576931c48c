import Derived.Test.YtjmfjehjlnghmaaLd
import Derived.Test.YtjmfjehjlnghmaaTe
import Derived.Deep.RegionHeld3
namespace Lab
theorem sown_to (D : Int) (ls : List Int) : ∀ k, Sown D k (sowTo D ls k)
  | 0 => sown_nil D
  | k + 1 => by
      have ih := sown_to D ls k
      rw [sowTo]
      cases h : ls[k]? with
      | none => simp only [List.append_nil]; exact sown_skip ih
      | some x =>
        simp only [sow1]
        split
        · next hh =>
          have h1 : x.tmod 5 < 5 := Int.tmod_lt_of_pos x (by omega)
          have h2 : -5 < x.tmod 5 := Int.lt_tmod_of_pos x (by omega)
          have h3 : 0 ≤ (x.tmod 5 + 5).tmod 5 ∧ (x.tmod 5 + 5).tmod 5 ≤ 4 := by
            rw [Int.tmod_eq_emod_of_nonneg (by omega)]; omega
          exact sown_add ih hh.1 h3.1 h3.2 hh.2
        · rw [List.append_nil]; exact sown_skip ih
theorem fine_seed (S : Int) (ls : List Int) : Fine (seedD S) (seedP S ls) := by
  have h := sown_to (seedD S) ls ls.length
  have hd : 1 ≤ seedD S ∧ seedD S ≤ 4 := by unfold seedD; omega
  exact ⟨h.1, hd.1, hd.2, fun p hp => by have := h.2.1 p hp; omega, h.2.2.2⟩
end Lab
namespace Pk
/-- A seed's label, as a pair. -/
def labOf (q : Int × List Int) : Lb := (Lab.seedD q.1, Lab.seedP q.1 q.2)
theorem right_labOf (qs : List (Int × List Int)) : ∀ l ∈ qs.map labOf, Lab.right l.1 l.2 = true := fun l hl => by
  obtain ⟨q, _, rfl⟩ := List.mem_map.1 hl
  exact right_of_fine (Lab.fine_seed q.1 q.2)
theorem labs_le {ls : List Lb} (h : ∀ l ∈ ls, Lab.right l.1 l.2 = true) : (labs ls).length ≤ 62 * ls.length := by
  induction ls with
  | nil => simp [labs]
  | cons l r ih =>
    rw [labs_cons, List.length_append, lab_len, List.length_cons]
    have := ih fun m hm => h m (by simp [hm])
    have := (right_small (h l (by simp))).2.2.1
    omega
end Pk
namespace Go.Proofs.Ytjmfjehjlnghmaa
open Go.RowKit
set_option linter.unusedVariables false
set_option linter.unusedSimpArgs false

/-- Seeds, each read. -/
def SR (w : World) (A : Option Addr) (qs : List (Int × List Int)) : Prop := ∀ (i : Nat) (S : Int) (ls : List Int), qs[i]? = some (S, ls) →
  ∃ b off a n c, A = some ⟨b, off, none⟩ ∧ b < w.heap.size ∧ w.cell? ⟨b, off + i * 2, none⟩ = some (.int .i64 S) ∧ w.cell? ⟨b, off + i * 2 + 1, none⟩ = some (.slice a n c) ∧ IntsL w (.slice a n c) ls
theorem SR.below {w w' : World} {A : Option Addr} {qs : List (Int × List Int)} (h : SR w A qs) (hb : Below w.heap.size w w') : SR w' A qs := fun i S ls hi => by
  obtain ⟨b, off, a, n, c, h1, h2, h3, h4, h5⟩ := h i S ls hi
  exact ⟨b, off, a, n, c, h1, Nat.lt_of_lt_of_le h2 hb.size, by rw [hb.cell (p := ⟨b, _, none⟩) h2]; exact h3, by rw [hb.cell (p := ⟨b, _, none⟩) h2]; exact h4, h5.below hb⟩
theorem CameS.read {w : World} {A : Option Addr} {n : Nat} {ss : List (Int × Value)} (hl : ss.length = n)
    (h : ∀ (i : Nat) (S : Int) (sv : Value), ss[i]? = some (S, sv) → ∃ b off, A = some ⟨b, off, none⟩ ∧ b < w.heap.size ∧ w.cell? ⟨b, off + i * 2, none⟩ = some (.int .i64 S) ∧ w.cell? ⟨b, off + i * 2 + 1, none⟩ = some sv ∧ Ints w sv) :
    ∃ qs : List (Int × List Int), qs.length = n ∧ SR w A qs := by
  have each : ∀ i : Nat, ∃ q : List Int, ∀ (S : Int) (sv : Value), ss[i]? = some (S, sv) → IntsL w sv q := by
    intro i
    cases hi : ss[i]? with
    | none => exact ⟨[], fun S sv h => by cases h⟩
    | some p =>
      obtain ⟨S, sv⟩ := p
      obtain ⟨b, off, _, _, _, _, hint⟩ := h i S sv hi
      obtain ⟨q, hq⟩ := hint.named
      exact ⟨q, fun S' sv' e => by cases e; exact hq⟩
  obtain ⟨g, hg⟩ := Classical.axiomOfChoice each
  refine ⟨(List.range n).map fun i => ((ss.map (·.1)).getD i 0, g i), by simp, fun i S ls hi => ?_⟩
  have hin : i < n := by have := (List.getElem?_eq_some_iff.1 hi).1; simpa using this
  rw [List.getElem?_map, List.getElem?_range hin] at hi
  have hs : ss[i]? = some ss[i] := List.getElem?_eq_getElem (by omega)
  obtain ⟨⟨S', sv⟩, hp⟩ : ∃ t, ss[i] = t := ⟨_, rfl⟩
  rw [hp] at hs
  have e1 : (ss.map (·.1)).getD i 0 = S' := by rw [List.getD_eq_getElem?_getD, List.getElem?_map, hs]; rfl
  rw [Option.map_some, e1] at hi
  simp only [ Option.some.injEq, Prod.mk.injEq] at hi
  obtain ⟨rfl, rfl⟩ := hi
  obtain ⟨b, off, h1, h2, h3, h4, _⟩ := h i S' sv hs
  have hq := hg i S' sv hs
  obtain ⟨a, m, c, rfl⟩ : ∃ a m c, sv = .slice a m c := by
    rcases hq with ⟨⟨a, c, rfl⟩, _⟩ | ⟨b, off, cap, n, rfl, _⟩
    · exact ⟨_, _, _, rfl⟩
    · exact ⟨_, _, _, rfl⟩
  exact ⟨b, off, a, m, c, h1, h2, h3, h4, hq⟩
end Go.Proofs.Ytjmfjehjlnghmaa
