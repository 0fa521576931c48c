import Derived.Test.YtlkhbbdigljpjaaSb
namespace Lab
theorem pos_found {D : Int} {ps : List (Nat × Int)} {c i : Nat} {p : Nat × Int} (hr : Rise ps) (hp : ps[i]? = some p) (e : p.1 = c) : at' D ps c = p.2 := by
  subst e; exact at_mem hr (List.mem_of_getElem? hp)
theorem pos_missed {D : Int} {ps : List (Nat × Int)} {c i : Nat} (hr : Rise ps) (h : IsPos ps c i) (hn : ¬ ∃ p, ps[i]? = some p ∧ p.1 = c) : at' D ps c = D := by
  refine at_out fun p hp e => ?_
  obtain ⟨t, ht⟩ := List.mem_iff_getElem?.1 hp
  rcases Nat.lt_trichotomy t i with hl | rfl | hl
  · have := h.2.1 t p hl ht; omega
  · exact hn ⟨p, ht, e⟩
  · have hi : i < ps.length := by have := (List.getElem?_eq_some_iff.1 ht).1; omega
    have h1 := h.2.2 i _ (Nat.le_refl _) (List.getElem?_eq_getElem hi)
    have h2 := rise_get hr hl (List.getElem?_eq_getElem hi) ht
    omega
end Lab
namespace Go.Proofs.Ytlkhbbdigljpjaa
open Go.RowKit
set_option linter.unusedVariables false
set_option linter.unusedSimpArgs false

theorem search_none (c : Nat) (w : World) :
    Calls Try.prog 47 #[.slice none 0 0, .int .u32 c, .func (.func 48) #[] #[]] w fun e w' => e = .returned (.tuple #[.int .i64 0, .bool false]) ∧ w' = w := by
  go_enter Try.func47, Try.ntmps47
  go_wp2
  go_loopg [9, 10] 0 (fun kx s9 s10 wr => s9 = .int .i64 0 ∧ s10 = .int .i64 0 ∧ wr = w)
  case atStart => exact ⟨rfl, rfl, rfl⟩
  case round =>
    obtain ⟨rfl, rfl, rfl⟩ := hrel
    go_wp2
    go_ret2
    exact ⟨rfl, rfl⟩
theorem search_any (v : Value) (ps : List (Nat × Int)) (c : Nat) (w : World) (hr : Lab.Rise ps) (h : Reads w v ps) :
    Calls Try.prog 47 #[v, .int .u32 c, .func (.func 48) #[] #[]] w fun e w' =>
      ∃ (i : Nat) (fnd : Bool), e = .returned (.tuple #[.int .i64 i, .bool fnd]) ∧ Lab.IsPos ps c i ∧ (fnd = true ↔ ∃ p, ps[i]? = some p ∧ p.1 = c) ∧ Below w.heap.size w w' := by
  rcases h with ⟨rfl, rfl⟩ | ⟨b, off, cap, rfl, h2, h3, h4⟩
  · refine (search_none c w).mono ?_
    rintro e w' ⟨rfl, rfl⟩
    exact ⟨0, false, rfl, ⟨by simp, fun t p ht => by omega, fun t p ht hp => by simp at hp⟩, by simp, Below.refl _ _⟩
  · exact search_some b off cap _ ps c w rfl h3 h2 hr h4
theorem find_any (v : Value) (ps : List (Nat × Int)) (D : Int) (c : Nat) (w : World) (hr : Lab.Rise ps) (h : Reads w v ps) :
    Calls Try.prog 44 #[.agg #[.int .i64 D, v], .int .u32 c] w fun e w' =>
      ∃ (i : Nat) (fnd : Bool), e = .returned (.tuple #[.int .i64 i, .bool fnd]) ∧ Lab.IsPos ps c i ∧ (fnd = true ↔ ∃ p, ps[i]? = some p ∧ p.1 = c) ∧ Below w.heap.size w w' := by
  have hB : Below w.heap.size w (w.alloc (Obj.cells #[.int .i64 D, v] 24)) := (Below.refl _ _).alloc (Nat.le_refl _) _
  have C1 := Lib.hid (search_any v ps c _ hr (h.below hB))
  have HB := Lib.hid hB
  clear hB hr h
  go_enter Try.func44, Try.ntmps44
  go_wp2_with fail
  refine C1.out.mono ?_
  rintro e w1 ⟨i, fnd, rfl, h1, h2, h3⟩
  have H := Lib.hid (And.intro h1 (And.intro h2 (HB.out.trans (h3.mono (by simp)))))
  clear h1 h2 h3
  go_wp2_with fail
  go_ret2
  exact ⟨i, fnd, rfl, H.out⟩
theorem pat_any (v : Value) (ps : List (Nat × Int)) (D : Int) (c : Nat) (w : World) (hr : Lab.Rise ps) (h : Reads w v ps) :
    Calls Try.prog 28 #[.agg #[.int .i64 D, v], .int .u32 c] w fun e w' => e = .returned (.int .i64 (Lab.at' D ps c)) ∧ Below w.heap.size w w' := by
  have hB : Below w.heap.size w (w.alloc (Obj.cells #[.int .i64 D, v] 24)) := (Below.refl _ _).alloc (Nat.le_refl _) _
  have C1 := Lib.hid (find_any v ps D c _ hr (h.below hB))
  obtain ⟨W0, eW⟩ : ∃ W0, W0 = w.alloc (Obj.cells #[.int .i64 D, v] 24) := ⟨_, rfl⟩
  have hblk : W0.heap[w.heap.size]? = some (Obj.cells #[.int .i64 D, v] 24) := by rw [eW]; exact heap_alloc_new w _
  rw [← eW] at C1 hB
  have HB := Lib.hid hB
  have HK := Lib.hid hblk
  have HR := Lib.hid hr
  have H := Lib.hid h
  clear hB hr h hblk
  go_enter Try.func28, Try.ntmps28
  go_wp2_with fail
  rw [← eW]
  clear eW
  refine C1.out.mono ?_
  rintro e w1 ⟨i, fnd, rfl, h1, h2, h3⟩
  have hk : w1.heap[w.heap.size]? = some (Obj.cells #[.int .i64 D, v] 24) := by rw [h3.block _ (by have := (Array.getElem?_eq_some_iff.1 HK.out).1; omega)]; exact HK.out
  have HF := Lib.hid (HB.out.trans (h3.mono HB.out.size))
  have d0 : w1.cell? ⟨w.heap.size, 0, none⟩ = some (.int .i64 D) := by rw [cell_of_row _ _ 0 _ 24 (0, 0) hk]; rfl
  have d1 : w1.cell? ⟨w.heap.size, 1, none⟩ = some v := by rw [cell_of_row _ _ 1 _ 24 (0, 0) hk]; rfl
  have H1 := Lib.hid h1
  have H2 := Lib.hid h2
  clear h1 h2 h3 hk
  cases fnd with
  | true =>
    obtain ⟨p, hp, e⟩ := H2.out.1 rfl
    obtain ⟨b, off, cap, rfl, hb, hn, hc⟩ := H.out.cells (by have := (List.getElem?_eq_some_iff.1 hp).1; omega)
    have hlt := (List.getElem?_eq_some_iff.1 hp).1
    have x2 : w1.cell? ⟨b, off + i * 2 + 1, none⟩ = some (.int .i64 p.2) := by rw [HF.out.cell (p := ⟨b, _, none⟩) hb]; exact (hc i p hp).2
    have HA := Lib.hid (Lab.pos_found (D := D) HR.out hp e)
    clear hc hp e
    go_wp2_with fail
    go_ret
    exact ⟨by rw [HA.out]; rfl, HF.out⟩
  | false =>
    have HA := Lib.hid (Lab.pos_missed (D := D) HR.out H1.out (fun h => by have := H2.out.2 h; cases this))
    go_wp2_with fail
    go_ret
    exact ⟨by rw [HA.out]; rfl, HF.out⟩
end Go.Proofs.Ytlkhbbdigljpjaa
