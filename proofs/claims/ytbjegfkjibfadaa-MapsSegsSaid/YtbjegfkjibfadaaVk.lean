/- A law's own map of numbers to true: which numbers it has, and how many. -/
import Derived.Test.YtbjegfkjibfadaaVm
set_option linter.unusedVariables false
set_option linter.unusedSimpArgs false
namespace Go.Proofs.Ytbjegfkjibfadaa
open Go.RowKit Go.Maps
set_option linter.unusedVariables false
set_option linter.unusedSimpArgs false
/-- The map in block G has the numbers of K. -/
def MapK (w : World) (G m : Nat) (K : List Int) : Prop := K.Nodup ∧ ∃ D : DataW Unit, w.ownsMap Try.prog 24 (plainElem Try.prog 4) G m D ∧ (∀ i : Int, D.atKey (.int .u64 i) (.lit (.bool false)) = .lit (.bool (decide (i ∈ K)))) ∧ (∀ i : Int, Maps.has D (.int .u64 i) = decide (i ∈ K)) ∧ Maps.size D = K.length
/-- One more. -/
def addK (K : List Int) (j : Int) : List Int := if j ∈ K then K else j :: K
theorem mem_addK {K : List Int} {j i : Int} : i ∈ addK K j ↔ i = j ∨ i ∈ K := by
  unfold addK
  split
  · rename_i h
    exact ⟨.inr, fun h' => by rcases h' with rfl | h'; exact h; exact h'⟩
  · exact List.mem_cons
section
variable {w w' : World} {G m : Nat} {K : List Int} {j : Int}
theorem MapK.new (w : World) : MapK (w.alloc (.map #[] 0)) w.heap.size 0 [] := ⟨List.nodup_nil, .map [], World.ownsMap_made _ _ _ _, fun i => rfl, fun i => rfl, rfl⟩
theorem MapK.same (h : MapK w G m K) (hs : w'.heap[G]? = w.heap[G]?) : MapK w' G m K := by
  obtain ⟨hk, D, ⟨es, clock, h1, h2⟩, h3⟩ := h
  exact ⟨hk, D, ⟨es, clock, by rw [hs]; exact h1, h2⟩, h3⟩
theorem MapK.lt (h : MapK w G m K) : G < w.heap.size := by
  obtain ⟨_, D, ho, _⟩ := h; exact ho.lt
theorem MapK.below (h : MapK w G m K) (hb : Below w.heap.size w w') : MapK w' G m K := h.same (hb.block G h.lt)
theorem MapK.len (h : MapK w G m K) (ty : TypeId) : (Builtin.len_ #[39] ty #[.map (some G)]).run Try.prog w = .ok (.int .i64 (K.length : Int)) w := by
  obtain ⟨_, D, ho, _, _, h3⟩ := h
  rw [ho.len Try.underlying39, h3]
theorem MapK.at_ (h : MapK w G m K) (h0 : 0 ≤ j) (hj : j ≤ 18446744073709551615) : (Instr.lookup 39 (.map (some G)) (.int .u64 j) false).run Try.prog w = .ok (.bool (decide (j ∈ K))) w := by
  obtain ⟨_, D, ho, h1, _⟩ := h
  obtain ⟨v, ps, hrun, hv⟩ := ho.lookup keyU Try.underlying39 (zeroB w) (plainElem_bool Try.underlying4 false) (key_u64 h0 hj)
  obtain ⟨y, rfl, hy⟩ := plain_bool_inv hv
  rw [hrun]
  rw [h1 j] at hy
  injection hy with hy _
  injection hy with hy
  injection hy with hy
  rw [hy]
theorem MapK.store (h : MapK w G m K) (hm : m < maxLen) (h0 : 0 ≤ j) (hj : j ≤ 18446744073709551615) :
    ∃ w', (Instr.mapUpdate 39 (.map (some G)) (.int .u64 j) (.bool true)).run Try.prog w = .ok () w' ∧ MapK w' G (m + 1) (addK K j) ∧ Turn [G] w w' := by
  obtain ⟨hnd, D, ho, h1, h2, h3⟩ := h
  obtain ⟨w', hrun, ho', hg⟩ := ho.update keyU Try.underlying39 hm (key_u64 h0 hj) (plainElem_bool Try.underlying4 true)
  have hk : WideAt.IsKeyLit (.int .u64 j) := keyU.key (key_u64 h0 hj)
  refine ⟨w', hrun, ⟨?_, _, ho', fun i => ?_, fun i => ?_, ?_⟩, ⟨hg.os, hg.tape, hg.output, hg.size, fun k hk hn => hg.block k hk (fun e => hn (by injection e with e; rw [e]; simp))⟩⟩
  · unfold addK; split
    · exact hnd
    · rename_i hjk; exact List.nodup_cons.2 ⟨hjk, hnd⟩
  · by_cases e : i = j
    · subst e; rw [atKey_put_same ho.isMap hk]; simp [mem_addK]
    · rw [atKey_put_other (by simp; omega), h1 i]; simp [mem_addK, e]
  · by_cases e : i = j
    · subst e; rw [has_put_same ho.isMap hk]; simp [mem_addK]
    · rw [has_put_other (by simp; omega), h2 i]; simp [mem_addK, e]
  · rw [size_put (ho.tidy keyU), h2 j, h3]
    unfold addK
    by_cases e : j ∈ K <;> simp [e]
end
theorem nodup_le : ∀ (A B : List Int), A.Nodup → (∀ x ∈ A, x ∈ B) → A.length ≤ B.length
  | [], B, _, _ => Nat.zero_le _
  | x :: A, B, h, hs => by
    have hx := hs x (by simp)
    have hn := List.nodup_cons.1 h
    have := nodup_le A (B.erase x) hn.2 fun y hy => (List.mem_erase_of_ne (fun e => hn.1 (by rw [← e]; exact hy))).2 (hs y (by simp [hy]))
    rw [List.length_erase_of_mem hx] at this
    have h0 := List.length_pos_of_mem hx
    simp only [List.length_cons]
    omega
/-- Rising numbers are as many as the map has that has the same. -/
theorem rise_len {m : Nat} {fr : Nat → Int} {K : List Int} (hr : ∀ i1 i2, i1 < i2 → i2 < m → fr i1 < fr i2) (hK : K.Nodup) (h1 : ∀ i, i < m → fr i ∈ K) (h2 : ∀ x ∈ K, ∃ i, i < m ∧ x = fr i) : K.length = m := by
  have hn : ((List.range m).map fr).Nodup := by
    rw [List.nodup_iff_pairwise_ne, List.pairwise_map]
    refine List.Pairwise.imp_of_mem (fun {a b} ha hb hab => ?_) (List.pairwise_lt_range (n := m))
    have := hr a b hab (List.mem_range.1 hb)
    omega
  have e1 := nodup_le _ K hn fun x hx => by
    obtain ⟨i, hi, rfl⟩ := List.mem_map.1 hx
    exact h1 i (List.mem_range.1 hi)
  have e2 := nodup_le K _ hK fun x hx => by
    obtain ⟨i, hi, rfl⟩ := h2 x hx
    exact List.mem_map.2 ⟨i, List.mem_range.2 hi, rfl⟩
  simp only [List.length_map, List.length_range] at e1 e2
  omega
end Go.Proofs.Ytbjegfkjibfadaa
