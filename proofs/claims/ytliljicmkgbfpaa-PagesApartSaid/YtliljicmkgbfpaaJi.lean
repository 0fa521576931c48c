/- What pages there are below a table; an invariant over what is one's own. -/
import Derived.Test.YtliljicmkgbfpaaJh
set_option linter.unusedVariables false
set_option linter.unusedSimpArgs false
namespace Pg
/-- The pages that lead somewhere, of those below a table. -/
def sg (mp : Nat → Option (Nat × Bool)) (l q : Nat) : List Nat := (List.range' (q * 8 ^ (4 - l)) (8 ^ (4 - l))).filter fun p => (mp p).isSome
theorem range_cut (a m : Nat) : ∀ n, List.range' a (n * m) = (List.range n).flatMap fun i => List.range' (a + i * m) m
  | 0 => by simp
  | n + 1 => by
    rw [List.range_succ, List.flatMap_append, ← range_cut a m n, Nat.succ_mul, ← List.range'_append]
    simp
theorem sg_split (mp : Nat → Option (Nat × Bool)) {l : Nat} (hl : l ≤ 3) (q : Nat) : sg mp l q = (List.range 8).flatMap fun i => sg mp (l + 1) (8 * q + i) := by
  unfold sg
  have e : 8 ^ (4 - l) = 8 * 8 ^ (4 - (l + 1)) := by rw [show 4 - l = (4 - (l + 1)) + 1 by omega, Nat.pow_succ, Nat.mul_comm]
  rw [e, range_cut, List.filter_flatMap]
  congr 1
  funext i
  rw [← Nat.mul_assoc, ← Nat.add_mul, Nat.mul_comm q 8]
/-- The pages that have come when so many entries have. -/
def fl1 (mp : Nat → Option (Nat × Bool)) (l q : Nat) (L : List (Nat × Nat)) : List Nat := L.flatMap fun x => sg mp (l + 1) (8 * q + x.1)
theorem fl1_snoc (mp : Nat → Option (Nat × Bool)) (l q : Nat) (L : List (Nat × Nat)) (x : Nat × Nat) : fl1 mp l q (L ++ [x]) = fl1 mp l q L ++ sg mp (l + 1) (8 * q + x.1) := by unfold fl1; simp
theorem fl1_prefix {mp : Nat → Option (Nat × Bool)} {l q : Nat} {L M : List (Nat × Nat)} (h : L <+: M) : fl1 mp l q L <+: fl1 mp l q M := by
  obtain ⟨t, rfl⟩ := h
  exact ⟨fl1 mp l q t, by unfold fl1; rw [List.flatMap_append]⟩
theorem fl1_all {mp : Nat → Option (Nat × Bool)} {l q : Nat} {E : Nat → Option Nat} (h : ∀ i, i < 8 → E i = none → sg mp (l + 1) (8 * q + i) = []) : ∀ n, n ≤ 8 → fl1 mp l q (ld E n) = (List.range n).flatMap fun i => sg mp (l + 1) (8 * q + i)
  | 0, _ => rfl
  | n + 1, hn => by
    rw [List.range_succ, List.flatMap_append, ← fl1_all h n (by omega)]
    cases he : E n with
    | none => rw [ld_no he]; simp [h n (by omega) he]
    | some x => rw [ld_yes he, fl1_snoc]; simp
theorem sg_range {mp : Nat → Option (Nat × Bool)} {l q y : Nat} (h : y ∈ sg mp l q) : q * 8 ^ (4 - l) ≤ y ∧ y < (q + 1) * 8 ^ (4 - l) ∧ (mp y).isSome = true := by
  unfold sg at h
  obtain ⟨h1, h2⟩ := List.mem_filter.1 h
  rw [List.mem_range'_1] at h1
  rw [Nat.succ_mul]
  exact ⟨h1.1, h1.2, h2⟩
theorem sg_pf {mp : Nat → Option (Nat × Bool)} {l q y : Nat} (h : y ∈ sg mp l q) : pf y l = q := by
  obtain ⟨h1, h2, _⟩ := sg_range h
  unfold pf
  have hp : 0 < 8 ^ (4 - l) := Nat.pow_pos (by omega)
  exact Nat.div_eq_of_lt_le h1 h2
variable {os : List Nat} {ds : List (List Nat)} {o : Nat} {ks : List (Nat × Nat)} {nd : Nat → Nat → Nat} {mp mp' : Nat → Option (Nat × Bool)}
theorem Tb.sg_none (h : Tb os ds o ks nd mp) {l q : Nat} (h1 : 1 ≤ l) (hl : l ≤ 3) (hk : (l, q) ∉ ks) : sg mp l q = [] := by
  rw [List.eq_nil_iff_forall_not_mem]
  intro y hy
  have hp := sg_pf hy
  have hs := (sg_range hy).2.2
  have hn : (3, y / 8) ∉ ks := fun h3 => by
    have e : l = 1 ∨ l = 2 ∨ l = 3 := by omega
    rcases e with rfl | rfl | rfl
    · rw [pf_1] at hp; rw [← hp] at hk; exact hk (h.up2 (h.up3 h3))
    · rw [pf_2] at hp; rw [← hp] at hk; exact hk (h.up3 h3)
    · rw [pf_3] at hp; rw [← hp] at hk; exact hk h3
  rw [h.out y hn] at hs
  cases hs
/-- Where the entries of a table lead. -/
def En (ks : List (Nat × Nat)) (nd : Nat → Nat → Nat) (mp : Nat → Option (Nat × Bool)) (l q i : Nat) : Option Nat := if l = 3 then (mp (8 * q + i)).map (·.1) else if (l + 1, 8 * q + i) ∈ ks then some (nd (l + 1) (8 * q + i)) else none
theorem sg_4 {mp : Nat → Option (Nat × Bool)} {p : Nat} : sg mp 4 p = if (mp p).isSome = true then [p] else [] := by
  unfold sg
  simp only [Nat.sub_self, Nat.pow_zero, Nat.mul_one, List.range'_one]
  cases h : (mp p).isSome <;> simp [h]
theorem Tb.fl1_sg (h : Tb os ds o ks nd mp) {l q : Nat} (hl : l ≤ 3) : fl1 mp l q (ld (En ks nd mp l q) 8) = sg mp l q := by
  rw [sg_split mp hl, fl1_all (fun i hi he => ?_) 8 (Nat.le_refl _)]
  unfold En at he
  split at he
  · rename_i h3
    subst h3
    rw [sg_4]
    cases hm : mp (8 * q + i) with
    | none => rfl
    | some x => rw [hm] at he; cases he
  · split at he
    · cases he
    · rename_i h3 hk
      exact h.sg_none (by omega) (by omega) hk
theorem Tb.gn_en (h : Tb os ds o ks nd mp') {l q i : Nat} (hl : l ≤ 3) (hk : (l, q) ∈ ks) (hi : i < 8) (hm : l = 3 → mp' (8 * q + i) = mp (8 * q + i)) : gn (ent ds (nd l q) i) = En ks nd mp l q i := by
  unfold En
  by_cases h3 : l = 3
  · subst h3
    rw [if_pos rfl, ← hm rfl, h.last q i hk hi, gn_look]
  · rw [if_neg h3]
    obtain ⟨h1, h2⟩ := h.in_ l q i (by omega) hk hi
    unfold gn
    by_cases hc : (l + 1, 8 * q + i) ∈ ks
    · rw [if_pos (h1.2 hc), if_pos hc, h2 hc]
    · rw [if_neg (fun e => hc (h1.1 e)), if_neg hc]
theorem ld_pair {E : Nat → Option Nat} : ∀ n, (ld E n).Pairwise fun x y => x.1 < y.1
  | 0 => by unfold ld; simp
  | n + 1 => by
    cases he : E n with
    | none => rw [ld_no he]; exact ld_pair n
    | some x =>
      rw [ld_yes he, List.pairwise_append]
      refine ⟨ld_pair n, by simp, fun a ha b hb => ?_⟩
      obtain rfl := List.mem_singleton.1 hb
      exact ld_lt a ha
theorem ld_before {E : Nat → Option Nat} {n : Nat} {pre : List (Nat × Nat)} {x : Nat × Nat} (h : pre ++ [x] <+: ld E n) : ∀ y ∈ pre, y.1 < x.1 := fun y hy => by
  obtain ⟨t, ht⟩ := h
  have := ld_pair (E := E) n
  rw [← ht, List.append_assoc, List.pairwise_append] at this
  exact this.2.2 y hy x (by simp)
theorem fl1_before {mp : Nat → Option (Nat × Bool)} {l q i : Nat} (hl : l ≤ 3) {L : List (Nat × Nat)} (h : ∀ y ∈ L, y.1 < i) : ∀ x ∈ fl1 mp l q L, x < (8 * q + i) * 8 ^ (3 - l) := fun x hx => by
  unfold fl1 at hx
  rw [List.mem_flatMap] at hx
  obtain ⟨y, hy, hx⟩ := hx
  have h1 := h y hy
  have h2 := (sg_range hx).2.1
  rw [show 4 - (l + 1) = 3 - l by omega] at h2
  exact Nat.lt_of_lt_of_le h2 (Nat.mul_le_mul_right _ (by omega))
theorem pf_le {p l q : Nat} (hl : l ≤ 3) (h : pf p (l + 1) = q) : q * 8 ^ (3 - l) ≤ p := by
  unfold pf at h
  rw [show 4 - (l + 1) = 3 - l by omega] at h
  rw [← h]
  exact Nat.div_mul_le_self _ _
theorem pf_up {p l q i : Nat} (hl : l ≤ 3) (hi : i < 8) (h : pf p (l + 1) = 8 * q + i) : pf p l = q := by
  unfold pf at h ⊢
  have e : 8 ^ (4 - l) = 8 ^ (4 - (l + 1)) * 8 := by rw [← Nat.pow_succ]; congr 1; omega
  rw [e, ← Nat.div_div_eq_div_mul, h]
  omega
end Pg
namespace Go.Proofs.Ytliljicmkgbfpaa
open Go.RowKit Pg
set_option linter.unusedVariables false
set_option linter.unusedSimpArgs false
theorem Same.lt {T : List Nat} {w w' : World} (h : Same T w w') {b : Nat} (hb : b ∈ T) (hl : b < w.heap.size) : b < w'.heap.size := by
  have := h b hb
  rw [Array.getElem?_eq_getElem hl] at this
  exact (Array.getElem?_eq_some_iff.1 this).1
/-- An invariant, told beside what is kept. -/
def Sub {β γ : Type} (J : List Nat → β → World → Prop) (f : γ → β) (own : List Nat) (Ws : World) (T : List Nat) (s : γ) (W : World) : Prop := J (own ++ T) (f s) W ∧ (∀ b ∈ own, b ∉ T) ∧ Same own Ws W ∧ ∀ b ∈ own, b < Ws.heap.size
theorem Sub.grows {β γ : Type} {J : List Nat → β → World → Prop} (h : Grows J) (f : γ → β) (own : List Nat) (Ws : World) : Grows (Sub J f own Ws) := by
  rintro T T' s w w' ⟨h1, h2, h3, h4⟩ hT ht hn
  have ho : ∀ b ∈ own, b < w.heap.size := fun b hb => h3.lt hb (h4 b hb)
  refine ⟨h _ _ _ _ _ h1 (fun b hb => ?_) (ht.mono (fun b hb => by simp [hb])) (fun b hb => ?_), fun b hb hm => ?_, h3.trans (fun b hb => ht.block b (ho b hb) (h2 b hb)), h4⟩
  · rcases List.mem_append.1 hb with hb | hb
    · exact ho b hb
    · exact hT b hb
  · rcases List.mem_append.1 hb with hb | hb
    · exact ⟨.inl (by simp [hb]), Nat.lt_of_lt_of_le (ho b hb) ht.size⟩
    · obtain ⟨e1, e2⟩ := hn b hb
      exact ⟨by rcases e1 with e1 | e1; exact .inl (by simp [e1]); exact .inr e1, e2⟩
  · rcases (hn b hm).1 with e | e
    · exact h2 b hb e
    · have := ho b hb; omega
theorem grows_and {β : Type} {J : List Nat → β → World → Prop} (h : Grows J) (p : β → Prop) : Grows (fun T s W => p s ∧ J T s W) := fun T T' s w w' ⟨hp, hs⟩ hT ht hn => ⟨hp, h _ _ _ _ _ hs hT ht hn⟩
theorem grows_ex {β γ : Type} {J : List Nat → β → World → Prop} (h : Grows J) (p : γ → β → Prop) : Grows (fun T (s : γ) W => ∃ b, p s b ∧ J T b W) := fun T T' s w w' ⟨b, hp, hs⟩ hT ht hn => ⟨b, hp, h _ _ _ _ _ hs hT ht hn⟩
theorem grows_off {β : Type} : Grows (fun (T : List Nat) (s : β) (W : World) => False) := fun _ _ _ _ _ h => h.elim
end Go.Proofs.Ytliljicmkgbfpaa
