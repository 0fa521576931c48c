/- Drop: which tables there are below one, and what is left when they are free. -/
import Derived.Test.YtliljicmkgbfpaaJn
set_option linter.unusedVariables false
set_option linter.unusedSimpArgs false
namespace Pg
set_option linter.unusedVariables false
set_option linter.unusedSimpArgs false
/-- The tables below one, by how many levels there are. -/
def sk (ks : List (Nat × Nat)) : Nat → Nat → Nat → List (Nat × Nat)
  | 0, _, _ => []
  | k + 1, l, q => (List.range 8).flatMap fun i => if (l + 1, 8 * q + i) ∈ ks then (l + 1, 8 * q + i) :: sk ks k (l + 1) (8 * q + i) else []
/-- .. those below the entries that have come. -/
def dk (ks : List (Nat × Nat)) (k l q : Nat) (pre : List (Nat × Nat)) : List (Nat × Nat) := match k with
  | 0 => []
  | k + 1 => pre.flatMap fun x => (l + 1, 8 * q + x.1) :: sk ks k (l + 1) (8 * q + x.1)
/-- Is a table at or below one? -/
def und (l q : Nat) (j : Nat × Nat) : Prop := l ≤ j.1 ∧ j.2 / 8 ^ (j.1 - l) = q
variable {ks : List (Nat × Nat)} {nd : Nat → Nat → Nat} {mp : Nat → Option (Nat × Bool)} {os os1 os2 os3 : List Nat} {ds ds1 ds2 ds3 : List (List Nat)} {o : Nat}
theorem und_up {l q i : Nat} {j : Nat × Nat} (hi : i < 8) (h : und (l + 1) (8 * q + i) j) : und l q j := by
  refine ⟨by have := h.1; omega, ?_⟩
  have h1 := h.1
  have h2 := h.2
  rw [show j.1 - l = (j.1 - (l + 1)) + 1 by omega, Nat.pow_succ, ← Nat.div_div_eq_div_mul, h2]
  omega
theorem sk_und : ∀ k l q j, j ∈ sk ks k l q → j ∈ ks ∧ und l q j ∧ l < j.1
  | 0, _, _, _, h => by simp [sk] at h
  | k + 1, l, q, j, h => by
    rw [sk, List.mem_flatMap] at h
    obtain ⟨i, hi, h⟩ := h
    rw [List.mem_range] at hi
    split at h
    · rcases List.mem_cons.1 h with rfl | h
      · rename_i hm
        exact ⟨hm, ⟨by simp, by show (8 * q + i) / 8 ^ (l + 1 - l) = q; rw [show l + 1 - l = 1 by omega]; omega⟩, by simp⟩
      · obtain ⟨h1, h2, h3⟩ := sk_und k (l + 1) (8 * q + i) j h
        exact ⟨h1, und_up hi h2, by omega⟩
    · cases h
theorem und_self (l q : Nat) : und l q (l, q) := ⟨Nat.le_refl _, by simp⟩
theorem sk_nodup : ∀ k l q, (sk ks k l q).Nodup
  | 0, _, _ => by simp [sk]
  | k + 1, l, q => by
    rw [sk]
    unfold List.Nodup
    rw [List.pairwise_flatMap]
    refine ⟨fun i hi => ?_, ?_⟩
    · split
      · exact List.nodup_cons.2 ⟨fun h => by have := (sk_und k _ _ _ h).2.2; simp at this, sk_nodup k _ _⟩
      · exact List.Pairwise.nil
    · refine List.Pairwise.imp_of_mem (R := (· < ·)) (fun {a b} ha hb hab x hx y hy e => ?_) List.pairwise_lt_range
      subst e
      have f : ∀ i, i ∈ List.range 8 → (x ∈ if (l + 1, 8 * q + i) ∈ ks then (l + 1, 8 * q + i) :: sk ks k (l + 1) (8 * q + i) else []) → und (l + 1) (8 * q + i) x := fun i _ h => by
        split at h
        · rcases List.mem_cons.1 h with rfl | h
          · exact und_self _ _
          · exact (sk_und k _ _ _ h).2.1
        · cases h
      have h1 := (f a ha hx).2
      have h2 := (f b hb hy).2
      omega
theorem sk_mem (hup : ∀ l q, (l + 1, q) ∈ ks → (l, q / 8) ∈ ks) : ∀ k l q j, l + k = 3 → j ∈ ks → j.1 ≤ 3 → l < j.1 → und l q j → j ∈ sk ks k l q
  | 0, l, q, j, hk, _, h3, hl, _ => by omega
  | k + 1, l, q, j, hk, hm, h3, hl, hu => by
    obtain ⟨a, b⟩ := j
    dsimp only at hl h3
    obtain ⟨d, rfl⟩ : ∃ d, a = l + 1 + d := ⟨a - (l + 1), by omega⟩
    have anc : ∀ d l' b, (l' + d, b) ∈ ks → (l', b / 8 ^ d) ∈ ks := by
      intro d
      induction d with
      | zero => intro l' b h; simpa using h
      | succ d ih =>
        intro l' b h
        have := ih l' (b / 8) (hup _ _ (by rw [Nat.add_assoc]; exact h))
        rwa [Nat.div_div_eq_div_mul, Nat.mul_comm, ← Nat.pow_succ] at this
    have h1 := anc d (l + 1) b hm
    have h2 := hu.2
    dsimp only at h2
    rw [show l + 1 + d - l = d + 1 by omega, Nat.pow_succ, ← Nat.div_div_eq_div_mul] at h2
    rw [sk, List.mem_flatMap]
    refine ⟨b / 8 ^ d % 8, List.mem_range.2 (Nat.mod_lt _ (by omega)), ?_⟩
    have e : 8 * q + b / 8 ^ d % 8 = b / 8 ^ d := by omega
    rw [e, if_pos h1]
    by_cases hd : d = 0
    · subst hd; simp
    · refine List.mem_cons_of_mem _ (sk_mem hup k (l + 1) _ _ (by omega) hm (by simpa using h3) (by dsimp only; omega) ⟨by dsimp only; omega, by dsimp only; rw [show l + 1 + d - (l + 1) = d by omega]⟩)
theorem Tb.sk_root (h : Tb os ds o ks nd mp) : (sk ks 3 0 0).length + 1 = ks.length := by
  have hn : ((0, 0) :: sk ks 3 0 0).Nodup := List.nodup_cons.2 ⟨fun h => by have := (sk_und 3 0 0 _ h).2.2; simp at this, sk_nodup 3 0 0⟩
  have hm : ∀ j, j ∈ (0, 0) :: sk ks 3 0 0 ↔ j ∈ ks := fun j => by
    constructor
    · intro hj
      rcases List.mem_cons.1 hj with rfl | hj
      · exact h.root
      · exact (sk_und 3 0 0 _ hj).1
    · intro hj
      obtain ⟨a, b⟩ := j
      obtain ⟨h1, h2⟩ := h.lev a b hj
      by_cases ha : a = 0
      · subst ha
        have : b = 0 := by simpa using h2
        subst this
        simp
      · refine List.mem_cons_of_mem _ (sk_mem h.up 3 0 0 _ (by omega) hj h1 (by dsimp only; omega) ⟨by simp, ?_⟩)
        dsimp only
        rw [Nat.sub_zero]
        exact Nat.div_eq_of_lt h2
  have := ((List.perm_ext_iff_of_nodup hn h.nodup).2 hm).length_eq
  simpa using this
theorem dk_snoc (k l q : Nat) (pre : List (Nat × Nat)) (x : Nat × Nat) : dk ks (k + 1) l q (pre ++ [x]) = dk ks (k + 1) l q pre ++ (l + 1, 8 * q + x.1) :: sk ks k (l + 1) (8 * q + x.1) := by
  unfold dk; simp
theorem dk_all (k l q : Nat) (hl : l < 3) : dk ks (k + 1) l q (ld (En ks nd mp l q) 8) = sk ks (k + 1) l q := by
  unfold dk ld
  rw [sk]
  dsimp only
  generalize List.range 8 = L
  induction L with
  | nil => rfl
  | cons i L ih =>
    rw [List.filterMap_cons, List.flatMap_cons, ← ih]
    by_cases hm : (l + 1, 8 * q + i) ∈ ks
    · rw [if_pos hm]
      have : En ks nd mp l q i = some (nd (l + 1) (8 * q + i)) := by unfold En; rw [if_neg (by omega), if_pos hm]
      simp [this]
    · rw [if_neg hm]
      have : En ks nd mp l q i = none := by unfold En; rw [if_neg (by omega), if_neg hm]
      simp [this]
theorem dk_und {k l q : Nat} {pre : List (Nat × Nat)} {j : Nat × Nat} (hp : ∀ x ∈ pre, (l + 1, 8 * q + x.1) ∈ ks) (h : j ∈ dk ks k l q pre) : j ∈ ks ∧ ∃ x ∈ pre, und (l + 1) (8 * q + x.1) j := by
  unfold dk at h
  split at h
  · cases h
  · rw [List.mem_flatMap] at h
    obtain ⟨x, hx, h⟩ := h
    rcases List.mem_cons.1 h with rfl | h
    · exact ⟨hp x hx, x, hx, und_self _ _⟩
    · exact ⟨(sk_und _ _ _ _ h).1, x, hx, (sk_und _ _ _ _ h).2.1⟩
/-- Frames F are free, and table T0 has other entries. -/
structure Em (o : Nat) (os1 : List Nat) (ds1 : List (List Nat)) (F : List Nat) (T0 : Nat) (os2 : List Nat) (ds2 : List (List Nat)) : Prop where
  oth : Oth o os1 ds1 os2 ds2
  own : ∀ g, 1 ≤ g → os2.getD (g - 1) 0 = if g ∈ F then 0 else os1.getD (g - 1) 0
  dat : ∀ g, 1 ≤ g → g ∉ F → g ≠ T0 → ds2.getD (g - 1) [] = ds1.getD (g - 1) []
  c0 : os2.count 0 = os1.count 0 + F.length
  co : os2.count o + F.length = os1.count o
theorem Em.refl (o : Nat) (os1 : List Nat) (ds1 : List (List Nat)) (T0 : Nat) : Em o os1 ds1 [] T0 os1 ds1 := ⟨Oth.refl _ _ _, fun g _ => by simp, fun _ _ _ _ => rfl, by simp, by simp⟩
theorem count_free {os : List Nat} {k o x : Nat} (hk : k < os.length) (ho : os.getD k 0 = o) (h0 : o ≠ 0) : (os.set k 0).count x + (if x = o then 1 else 0) = os.count x + (if x = 0 then 1 else 0) := by
  have e : os[k] = o := by rw [List.getD_eq_getElem?_getD, List.getElem?_eq_getElem hk] at ho; exact ho
  have hc : 0 < os.count o := List.count_pos_iff.2 (by rw [← e]; exact List.getElem_mem hk)
  rw [List.count_set hk, e]
  by_cases h1 : x = o
  · subst h1
    have : ¬ x = 0 := h0
    have e2 : ((0 : Nat) == x) = false := by simp; omega
    simp [e2, this]
    omega
  · by_cases h2 : x = 0
    · subst h2
      have e1 : (o == (0 : Nat)) = false := by simp; omega
      simp [e1, h1]
    · have e1 : (o == x) = false := by simp; omega
      have e2 : ((0 : Nat) == x) = false := by simp; omega
      simp [e1, e2, h1, h2]
theorem Oth.free {k : Nat} (hk : k < os.length) (ho : os.getD k 0 = o) (h0 : o ≠ 0) : Oth o os ds (os.set k 0) ds := by
  refine ⟨by simp, rfl, fun x hx hxo => ⟨?_, fun g g1 g2 hg => ⟨?_, rfl⟩⟩⟩
  · have := count_free (x := x) hk ho h0
    rw [if_neg hxo, if_neg hx] at this
    omega
  · rw [getD_setN _ _ _ _ hk, if_neg (fun e => hxo (by rw [← hg, e, ho]))]; exact hg
theorem Em.step {F F' : List Nat} {T0 T1 : Nat} (h : Em o os1 ds1 F T0 os2 ds2) (k : Em o os2 ds2 F' T1 os3 ds3) (h0 : o ≠ 0) (t1 : 1 ≤ T1) (t2 : T1 ≤ os3.length) (ht : os3.getD (T1 - 1) 0 = o) : Em o os1 ds1 (F ++ (T1 :: F')) T0 (os3.set (T1 - 1) 0) ds3 := by
  refine ⟨(h.oth.trans k.oth).trans (Oth.free (by omega) ht h0), fun g g1 => ?_, fun g g1 gF gT => ?_, ?_, ?_⟩
  · rw [getD_setN _ _ _ _ (by omega)]
    by_cases e : g = T1
    · subst e; simp
    · rw [if_neg (by omega), k.own g g1, h.own g g1]
      by_cases e1 : g ∈ F' <;> by_cases e2 : g ∈ F <;> simp [e, e1, e2]
  · simp at gF
    rw [k.dat g g1 gF.2.2 gF.2.1, h.dat g g1 gF.1 gT]
  · have := count_free (x := 0) (by omega) ht h0
    rw [if_neg (by omega), if_pos rfl] at this
    have := k.c0
    have := h.c0
    simp
    omega
  · have := count_free (x := o) (by omega) ht h0
    rw [if_pos rfl, if_neg h0] at this
    have := k.co
    have := h.co
    simp
    omega
theorem Em.write {F : List Nat} {T0 : Nat} (h : Em o os1 ds1 F T0 os2 ds2) (t1 : 1 ≤ T0) (t2 : T0 ≤ ds2.length) (ht : os2.getD (T0 - 1) 0 = o) (d : List Nat) : Em o os1 ds1 F T0 os2 (ds2.set (T0 - 1) d) := by
  refine ⟨h.oth.trans (Oth.write t1 t2 ht d), h.own, fun g g1 gF gT => ?_, h.c0, h.co⟩
  rw [getD_set _ _ _ _ (by omega), if_neg (by omega)]
  exact h.dat g g1 gF gT
end Pg
