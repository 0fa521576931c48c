/- SlotsFair's mathematics: who has had a turn, which slots have begun. -/
import Derived.Test.YtjmdgmlpecjolaaCd
import Derived.Test.YtjmdgmlpecjolaaVm
set_option linter.unusedVariables false
set_option linter.unusedSimpArgs false
namespace Go.Proofs.Ytjmdgmlpecjolaa
open Go.RowKit
set_option linter.unusedVariables false
set_option linter.unusedSimpArgs false
variable {w : World} {B off n cp : Nat} {ys : List Sl} {c : Ck} {f : Int → Int} {P : Int} {j sz : Nat}
/-- How many ticks there are ahead of slot i. -/
def st (ys : List Sl) : Nat → Int
  | 0 => 0
  | k + 1 => st ys k + tk ys k
theorem st_lt (h : TW w B off n cp ys) {i : Nat} : ∀ {k : Nat}, i < k → k ≤ n → st ys i + 1 ≤ st ys k
  | 0, hi, _ => by omega
  | k + 1, hi, hk => by
    have h1 := (tk_le h (i := k) (by omega)).1
    simp only [st]
    by_cases e : i = k
    · subst e; omega
    · have := st_lt h (i := i) (k := k) (by omega) (by omega)
      omega
theorem st_bound (h : TW w B off n cp ys) : ∀ {k : Nat}, k ≤ n → 0 ≤ st ys k ∧ st ys k ≤ 16 * k
  | 0, _ => by simp [st]
  | k + 1, hk => by
    have h1 := tk_le h (i := k) (by omega)
    have := st_bound h (k := k) (by omega)
    simp only [st]
    omega
/-- How many of the first k numbers have been counted. -/
def cntF (f : Int → Int) : Nat → Nat
  | 0 => 0
  | k + 1 => cntF f k + (if f k = 0 then 0 else 1)
theorem cntF_zero : ∀ k, cntF (fun _ => 0) k = 0
  | 0 => rfl
  | k + 1 => by simp [cntF, cntF_zero k]
theorem cntF_other (f : Int → Int) {i : Nat} (x : Int) : ∀ {k : Nat}, k ≤ i → cntF (updF f i x) k = cntF f k
  | 0, _ => rfl
  | k + 1, hk => by
    simp only [cntF]
    rw [cntF_other f x (by omega), updF_other f x (by omega)]
theorem cntF_upd (f : Int → Int) {i : Nat} (h0 : f i = 0) : ∀ {k : Nat}, i < k → cntF (updF f i 1) k = cntF f k + 1
  | 0, hk => by omega
  | k + 1, hk => by
    simp only [cntF]
    by_cases e : i = k
    · subst e
      rw [cntF_other f 1 (Nat.le_refl _), updF_same, h0]
      simp
    · rw [cntF_upd f h0 (by omega), updF_other f 1 (by omega)]
      omega
theorem cntF_all {f : Int → Int} : ∀ {k : Nat}, (∀ i : Nat, i < k → f i = 1) → cntF f k = k
  | 0, _ => rfl
  | k + 1, h => by
    simp only [cntF]
    rw [cntF_all (fun i hi => h i (by omega)), h k (by omega)]
    simp
theorem cntF_le (f : Int → Int) : ∀ k, cntF f k ≤ k
  | 0 => Nat.le_refl _
  | k + 1 => by have := cntF_le f k; simp only [cntF]; split <;> omega
/-- Which slots have begun behind j ticks, from place P on. -/
structure BG (ys : List Sl) (n : Nat) (P : Int) (j : Nat) (c : Ck) (f : Int → Int) (sz : Nat) : Prop where
  pos : st ys c.s + (tk ys c.s - c.l) = P + j ∨ st ys c.s + (tk ys c.s - c.l) = P + j - st ys n
  p : 0 ≤ P ∧ P < st ys n
  hf : ∀ i : Nat, i < n → f i = if (P < st ys i ∧ st ys i ≤ P + j) ∨ st ys i + st ys n ≤ P + j then 1 else 0
  cnt : sz = cntF f n
theorem BG.start (h : TW w B off n cp ys) (hk : Kok ys c) : BG ys n (st ys c.s + (tk ys c.s - c.l)) 0 c (fun _ => 0) 0 := by
  have hs := hk.s
  have hl := hk.l
  have hn := h.l
  have h1 := st_bound h (k := c.s) (by omega)
  have h2 : st ys (c.s + 1) ≤ st ys n := by
    by_cases e : c.s + 1 = n
    · rw [e]; exact Int.le_refl _
    · have := st_lt h (i := c.s + 1) (k := n) (by omega) (Nat.le_refl _); omega
  simp only [st] at h2
  refine ⟨.inl (by omega), by omega, fun i hi => ?_, (cntF_zero n).symm⟩
  have h3 := st_bound h (k := i) (by omega)
  rw [if_neg (by omega)]
theorem BG.stay (h : TW w B off n cp ys) (hk : Kok ys c) (b : BG ys n P j c f sz) (hl : c.l > 1) : BG ys n P (j + 1) (tick ys c) f sz := by
  have hs := hk.s
  have hl2 := hk.l
  have hn := h.l
  have hp := b.p
  have h1 := st_bound h (k := c.s) (by omega)
  have hup : ∀ i, c.s < i → i ≤ n → st ys (c.s + 1) ≤ st ys i := fun i hi hin => by
    by_cases e : c.s + 1 = i
    · rw [e]; exact Int.le_refl _
    · have := st_lt h (i := c.s + 1) (k := i) (by omega) hin; omega
  have hdn : ∀ i, i ≤ c.s → st ys i ≤ st ys c.s := fun i hi => by
    by_cases e : i = c.s
    · rw [e]; exact Int.le_refl _
    · have := st_lt h (i := i) (k := c.s) (by omega) (by omega); omega
  have h2 := hup n (by omega) (Nat.le_refl _)
  have ht : tick ys c = ⟨c.s, c.l - 1, c.n + 1, c.t⟩ := by unfold tick; rw [if_pos hl]
  have hss : st ys (c.s + 1) = st ys c.s + tk ys c.s := rfl
  rw [ht]
  have hpos := b.pos
  refine ⟨?_, hp, fun i hi => ?_, b.cnt⟩
  · simp only
    rcases hpos with h | h
    · left; omega
    · right; omega
  · rw [b.hf i hi]
    have hi0 := st_bound h (k := i) (by omega)
    have hi1 := st_lt h (i := i) (k := n) hi (Nat.le_refl _)
    have hne : st ys i ≤ st ys c.s ∨ st ys (c.s + 1) ≤ st ys i := by
      by_cases e : i ≤ c.s
      · exact .inl (hdn i e)
      · exact .inr (hup i (by omega) (by omega))
    congr 1
    simp only [eq_iff_iff]
    omega
theorem BG.begin (h : TW w B off n cp ys) (hk : Kok ys c) (b : BG ys n P j c f sz) (hl : ¬ c.l > 1) (hj : (j : Int) < st ys n) : f (nxt ys c.s : Nat) = 0 ∧ BG ys n P (j + 1) (tick ys c) (updF f (nxt ys c.s : Nat) 1) (sz + 1) := by
  have hs := hk.s
  have hl2 := hk.l
  have hn := h.l
  have hp := b.p
  have h1 := st_bound h (k := c.s) (by omega)
  have hss : st ys (c.s + 1) = st ys c.s + tk ys c.s := rfl
  have ht : tick ys c = ⟨nxt ys c.s, tk ys (nxt ys c.s), c.n + 1, c.t⟩ := by unfold tick; rw [if_neg hl]
  have hx := nxt_lt h c.s
  have hcase : (nxt ys c.s = c.s + 1 ∧ c.s + 1 < n) ∨ (nxt ys c.s = 0 ∧ c.s + 1 = n) := by
    unfold nxt
    rw [hn]
    by_cases e : c.s + 1 < n
    · rw [if_pos e]; exact .inl ⟨rfl, e⟩
    · rw [if_neg e]; exact .inr ⟨rfl, by omega⟩
  obtain ⟨z, ez⟩ : ∃ z, nxt ys c.s = z := ⟨_, rfl⟩
  rw [ht]
  rw [ez] at hx hcase ⊢
  have hz0 := st_bound h (k := z) (by omega)
  have hz1 := st_lt h (i := z) (k := n) hx (Nat.le_refl _)
  have hst0 : st ys 0 = 0 := rfl
  have hzz : (st ys z = st ys (c.s + 1)) ∨ (st ys z = 0 ∧ st ys (c.s + 1) = st ys n) := by
    rcases hcase with ⟨e, _⟩ | ⟨e, e2⟩
    · rw [e]; exact .inl rfl
    · rw [e, e2]; exact .inr ⟨rfl, rfl⟩
  have h2 : st ys (c.s + 1) ≤ st ys n := by rcases hzz with e | ⟨e, e2⟩ <;> omega
  have hpos := b.pos
  have hf0 : f (z : Nat) = 0 := by
    rw [b.hf z hx, if_neg]
    omega
  refine ⟨hf0, ?_, hp, fun i hi => ?_, by rw [b.cnt, cntF_upd f hf0 hx]⟩
  · simp only
    rcases hpos with h | h
    · rcases hzz with e | ⟨e, e2⟩
      · left; omega
      · right; omega
    · rcases hzz with e | ⟨e, e2⟩
      · right; omega
      · right; omega
  · have hi0 := st_bound h (k := i) (by omega)
    have hi1 := st_lt h (i := i) (k := n) hi (Nat.le_refl _)
    by_cases e : i = z
    · subst e
      rw [updF_same, if_pos]
      omega
    · rw [updF_other f 1 (by omega), b.hf i hi]
      have hne : st ys i ≠ st ys z := by
        rcases Nat.lt_or_gt_of_ne e with e | e
        · have := st_lt h (i := i) (k := z) e (by omega); omega
        · have := st_lt h (i := z) (k := i) e (by omega); omega
      congr 1
      simp only [eq_iff_iff]
      omega
theorem BG.done (h : TW w B off n cp ys) (b : BG ys n P j c f sz) (hj : (j : Int) = st ys n) : (∀ i : Nat, i < n → f i = 1) ∧ sz = n := by
  have h1 : ∀ i : Nat, i < n → f i = 1 := fun i hi => by
    have hi0 := st_bound h (k := i) (by omega)
    have hi1 := st_lt h (i := i) (k := n) hi (Nat.le_refl _)
    have := b.p
    rw [b.hf i hi, if_pos]
    omega
  exact ⟨h1, by rw [b.cnt, cntF_all h1]⟩
/-- Who has had a turn behind j of them, from T on, of N. -/
def SE (T N j : Nat) (f : Int → Int) : Prop := ∀ i : Nat, i < N → f i = if (T ≤ i ∧ i < T + j) ∨ i + N < T + j then 1 else 0
theorem SE.start {T N : Nat} (hT : T < N) : SE T N 0 (fun _ => 0) := fun i hi => by rw [if_neg (by omega)]
theorem mod_step {T N j : Nat} (hj : j < N) : ((T + j) % N = T % N + j ∧ T % N + j < N) ∨ ((T + j) % N + N = T % N + j ∧ N ≤ T % N + j) := by
  have h0 : T % N < N := Nat.mod_lt _ (by omega)
  have h1 : (T + j) % N = (T % N + j) % N := by rw [Nat.mod_add_mod]
  rw [h1]
  by_cases h : T % N + j < N
  · left; rw [Nat.mod_eq_of_lt h]; exact ⟨rfl, h⟩
  · right
    rw [Nat.mod_eq_sub_mod (by omega), Nat.mod_eq_of_lt (by omega)]
    omega
theorem SE.step {T N r : Nat} (h : SE (T % N) N j f) (hj : j < N) (hr : (T + j) % N = r) : f (r : Nat) = 0 ∧ SE (T % N) N (j + 1) (updF f (r : Nat) 1) := by
  have h0 : T % N < N := Nat.mod_lt _ (by omega)
  have hs := mod_step (T := T) hj
  rw [hr] at hs
  have hf0 : f (r : Nat) = 0 := by
    rw [h r (by omega), if_neg (by omega)]
  refine ⟨hf0, fun i hi => ?_⟩
  by_cases e : i = r
  · subst e
    rw [updF_same, if_pos (by omega)]
  · rw [updF_other f 1 (by omega), h i hi]
    congr 1
    simp only [eq_iff_iff]
    omega
theorem SE.done {T N : Nat} (h : SE T N N f) (hT : T < N) {i : Nat} (hi : i < N) : f i = 1 := by
  rw [h i hi, if_pos (by omega)]
end Go.Proofs.Ytjmdgmlpecjolaa
