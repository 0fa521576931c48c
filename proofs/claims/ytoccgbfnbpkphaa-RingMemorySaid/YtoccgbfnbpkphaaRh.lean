/- All: what it answers. -/
import Derived.Test.YtoccgbfnbpkphaaRf
set_option linter.unusedVariables false
set_option linter.unusedSimpArgs false
namespace Go.Proofs.Ytoccgbfnbpkphaa
open Go.RowKit Rn
set_option linter.unusedVariables false
set_option linter.unusedSimpArgs false
variable {W w w' : World} {T : List Nat} {R : Nat} {ps : List (List Nat)} {lost : Nat} {us : List Nat}
/-- What All has laid: a box B, and the packets in block N. -/
def AZ (B N : Nat) (g : Nat → Pk) (n : Nat) (w : World) : Prop := ∃ c cur, w.heap[B]? = some (Obj.cells #[.slice (some ⟨N, 0, none⟩) n c] 49) ∧ w.heap[N]? = some (Obj.cells cur 26) ∧ n ≤ c ∧ c ≤ maxLen ∧ cur.toList.take (n * 33) = ks g n
set_option maxHeartbeats 1000000 in
theorem all_any {g : Nat → Pk} {n : Nat} {v : Value} (h : RM w R g n lost v) (hn : n ≤ 8) : Calls Try.prog 11 #[.pointer (some ⟨R, 0, none⟩)] w fun e w' =>
    ∃ B N, e = .returned (.func (.func 18) #[] #[.pointer (some ⟨B, 0, none⟩)]) ∧ AZ B N g n w' ∧ w.heap.size ≤ B ∧ w.heap.size ≤ N ∧ Below w.heap.size w w' := by
  have hok := h.ok
  obtain ⟨B, eB⟩ : ∃ B, w.heap.size = B := ⟨_, rfl⟩
  obtain ⟨W1, eW1⟩ : ∃ W1, w.alloc (Obj.cells #[.slice none 0 0] 49) = W1 := ⟨_, rfl⟩
  obtain ⟨W2, eW2⟩ : ∃ W2, ({ W1 with drawn := W1.drawn + 1 } : World) = W2 := ⟨_, rfl⟩
  have hb1 : Below w.heap.size w W1 := by rw [← eW1]; exact below_alloc1 _ _
  have hb2 : Below w.heap.size w W2 := by rw [← eW2]; exact hb1.drew
  have hB2 : W2.heap[B]? = some (Obj.cells #[.slice none 0 0] 49) := by rw [← eW2, ← eW1, ← eB]; exact heap_alloc_new w _
  have hr2 := h.same (hb2.block R h.lt)
  have c2 := hr2.cn
  obtain ⟨xs, exs⟩ : ∃ xs, ks g n = xs := ⟨_, rfl⟩
  have hxl : xs.length = n * 33 := by rw [← exs]; exact ks_len (fun k hk => hok _ (by omega))
  have C := Lib.hid (clone_pks ⟨R, 0, none⟩ 8 n xs W2 hxl (by omega)
    (fun j u hu => by
      obtain ⟨cs, hcs, hrg⟩ := hr2
      have hjl : j < n * 33 := by rw [← hxl]; exact (List.getElem?_eq_some_iff.1 hu).1
      obtain ⟨k, i, rfl, hk, hi⟩ := ks_split hjl
      rw [← exs, ks_at (fun k hk => hok _ (by omega)) hk hi] at hu
      rw [addr_add, cell_of_row _ _ _ _ 30 (0, 0) hcs, List.getElem?_toArray, Nat.zero_add]
      exact hrg.cell k (by omega) i u hu)
    (by rw [← exs]; exact ks_one _ _))
  have j1 : (n : Int) ≤ 8 := by omega
  have j2 : 0 ≤ (n : Int) := by omega
  have HE := Lib.hid (And.intro hb2 (And.intro hB2 (And.intro eB exs)))
  clear hr2 h hok hb1 hb2 hB2 hxl exs
  go_enter Try.func11, Try.ntmps11
  go_upto_region 3 with fail
  refine wp_region_still_tail 8 (by kernel_rfl) (by kernel_rfl) ?_
  rw [eW2]
  simp only [List.take_succ_cons, List.take_zero, List.drop_succ_cons, List.drop_zero]
  clear eW2 eW1
  repeat still_step
  refine wpStill_nil ?_
  go_wp2_with fail
  refine C.out.mono ?_; rintro e w3 ⟨v', rfl, ⟨N, cap, cur, rfl, hN, hcur, hnc, hcm, htk, _⟩, hb3⟩
  have hBl : B < W2.heap.size := (Array.getElem?_eq_some_iff.1 HE.out.2.1).1
  have hB3 := (hb3.block B hBl).trans HE.out.2.1
  have f3 := frozen_of_row _ _ 0 _ 49 hB3
  have d3 : w3.cell? ⟨B, 0, none⟩ = some (.slice none 0 0) := by rw [cell_of_row _ _ _ _ 49 (0, 0) hB3]; rfl
  have hfin : AZ B N g n (w3.setCell ⟨B, 0, none⟩ (.slice (some ⟨N, 0, none⟩) n cap)) := by
    refine ⟨cap, cur, ?_, ?_, hnc, hcm, by rw [HE.out.2.2.2]; exact htk⟩
    · rw [heap_setCell_same w3 B 0 _ 49 _ hB3]; rfl
    · rw [heap_setCell_other w3 ⟨B, 0, none⟩ N _ (show N ≠ B from fun e => by omega)]; exact hcur
  have HF := Lib.hid (And.intro hfin (And.intro (show w.heap.size ≤ B by have := HE.out.2.2.1; omega) (And.intro (show w.heap.size ≤ N by have := HE.out.1.size; omega)
    ((HE.out.1.trans (hb3.mono HE.out.1.size)).setCell (p := ⟨B, 0, none⟩) (by have := HE.out.2.2.1; show w.heap.size ≤ B; omega) (.slice (some ⟨N, 0, none⟩) n cap)))))
  clear hfin hcur hnc hcm htk hb3 hB3 hBl HE C hN
  go_wp2_with fail
  go_ret
  exact ⟨_, _, rfl, HF.out⟩
theorem all_rs (h : RS W T R ps lost us w) : Calls Try.prog 11 #[.pointer (some ⟨R, 0, none⟩)] w fun e w' =>
    ∃ B N g, e = .returned (.func (.func 18) #[] #[.pointer (some ⟨B, 0, none⟩)]) ∧ AZ B N g ps.length w' ∧ wait g ps.length = ps ∧ (∀ k, k < 8 → (g k).ok) ∧ RS W (B :: N :: T) R ps lost us w' ∧ Same T w w' ∧ w.heap.size ≤ B ∧ w.heap.size ≤ N := by
  obtain ⟨g, v, h1, h2, h3⟩ := h.m
  refine (all_any h1 h.np).mono fun e w' ⟨B, N, he, hz, hB, hN, hb⟩ => ⟨B, N, g, he, hz, h2, h1.ok, ?_, h.same hb, hB, hN⟩
  obtain ⟨c, cur, z1, z2, _⟩ := hz
  refine h.more hb fun b hm => ?_
  rcases List.mem_cons.1 hm with rfl | hm
  · exact ⟨.inr hB, (Array.getElem?_eq_some_iff.1 z1).1⟩
  · rcases List.mem_cons.1 hm with rfl | hm
    · exact ⟨.inr hN, (Array.getElem?_eq_some_iff.1 z2).1⟩
    · exact ⟨.inl hm, Nat.lt_of_lt_of_le (h.t b hm) hb.size⟩
end Go.Proofs.Ytoccgbfnbpkphaa
