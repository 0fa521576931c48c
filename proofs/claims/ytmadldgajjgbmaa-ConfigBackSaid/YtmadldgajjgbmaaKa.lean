/- Bytes: what a reader makes of them, and what numbers and labels become. -/
import Derived.Test.YtmadldgajjgbmaaNa
import Derived.Test.YtmadldgajjgbmaaSh
namespace Pk
set_option linter.unusedVariables false
set_option linter.unusedSimpArgs false

/-- The number that bytes are, the highest first. -/
def num (bs : List Nat) : Nat := bs.foldl (fun x c => x * 256 + c) 0
/-- The lowest n bytes of a number, the highest first. -/
def enc : Nat → Nat → List Nat
  | 0, _ => []
  | n + 1, x => enc n (x / 256) ++ [x % 256]
theorem num_snoc (bs : List Nat) (c : Nat) : num (bs ++ [c]) = num bs * 256 + c := by unfold num; rw [List.foldl_append]; rfl
theorem enc_len : ∀ (n x : Nat), (enc n x).length = n
  | 0, _ => rfl
  | n + 1, x => by rw [enc, List.length_append, enc_len n]; rfl
theorem enc_byte : ∀ (n x : Nat), ∀ c ∈ enc n x, c < 256
  | 0, _, c, h => by simp [enc] at h
  | n + 1, x, c, h => by
      rw [enc] at h
      rcases List.mem_append.1 h with h | h
      · exact enc_byte n _ c h
      · simp at h; omega
theorem num_enc : ∀ (n x : Nat), num (enc n x) = x % 256 ^ n
  | 0, x => by simp [num, enc, Nat.mod_one]
  | n + 1, x => by
      rw [enc, num_snoc, num_enc n, Nat.pow_succ, Nat.mul_comm (256 ^ n) 256, Nat.mod_mul]
      omega
theorem num_lt : ∀ (n : Nat) (bs : List Nat), bs.length = n → (∀ c ∈ bs, c < 256) → num bs < 256 ^ n := by
  intro n
  induction n with
  | zero => intro bs h _; rw [List.eq_nil_of_length_eq_zero h]; simp [num]
  | succ n ih =>
    intro bs h hb
    have hne : bs ≠ [] := by intro e; subst e; simp at h
    have e := List.dropLast_concat_getLast hne
    rw [← e, num_snoc]
    have h1 := ih bs.dropLast (by simp [h]) (fun c hc => hb c (List.dropLast_subset bs hc))
    have h2 := hb _ (List.getLast_mem hne)
    rw [Nat.pow_succ]; omega
theorem num_take {bs : List Nat} {k c : Nat} (h : bs[k]? = some c) : num (bs.take (k + 1)) = num (bs.take k) * 256 + c := by
  rw [List.take_add_one, h]; exact num_snoc _ _
/-- A reader: the bytes that are left; has it failed? -/
abbrev St := List Nat × Bool
/-- The next number of n bytes. -/
def nx (n : Nat) (s : St) : Nat × St := if s.2 = false ∧ n ≤ s.1.length then (num (s.1.take n), (s.1.drop n, false)) else (0, (s.1, true))
theorem nx_ok {n : Nat} {bs : List Nat} (h : n ≤ bs.length) : nx n (bs, false) = (num (bs.take n), (bs.drop n, false)) := by unfold nx; rw [if_pos ⟨rfl, h⟩]
theorem nx_bad {n : Nat} (bs : List Nat) : nx n (bs, true) = (0, (bs, true)) := by unfold nx; rw [if_neg (by simp)]
theorem nx_short {n : Nat} {bs : List Nat} {b : Bool} (h : bs.length < n) : nx n (bs, b) = (0, (bs, true)) := by unfold nx; rw [if_neg (by simp; omega)]
theorem nx_byte {n : Nat} {s : St} (hb : ∀ c ∈ s.1, c < 256) : (nx n s).1 < 256 ^ n ∧ (∀ c ∈ (nx n s).2.1, c < 256) ∧ (nx n s).2.1.length ≤ s.1.length := by
  unfold nx
  split
  · next h =>
    refine ⟨num_lt n _ (by simp; omega) fun c hc => hb c (List.mem_of_mem_take hc), fun c hc => hb c (List.mem_of_mem_drop hc), by simp⟩
  · exact ⟨Nat.pow_pos (by omega), hb, Nat.le_refl _⟩
/-- So many pairs. -/
def prs : Nat → St → List (Nat × Int) × St
  | 0, s => ([], s)
  | k + 1, s => (((nx 4 s).1, ((nx 1 (nx 4 s).2).1 : Int)) :: (prs k (nx 1 (nx 4 s).2).2).1, (prs k (nx 1 (nx 4 s).2).2).2)
theorem prs_len : ∀ (k : Nat) (s : St), (prs k s).1.length = k
  | 0, _ => rfl
  | k + 1, s => by rw [prs, List.length_cons, prs_len k]
/-- What stands where a label should. -/
def al (s : St) : Int × List (Nat × Int) × St := (((nx 1 s).1 : Int), (prs (nx 1 (nx 1 s).2).1 (nx 1 (nx 1 s).2).2).1, (prs (nx 1 (nx 1 s).2).1 (nx 1 (nx 1 s).2).2).2)
/-- The next label, and the bytes behind it. -/
def rl (bs : List Nat) : Option (Int × List (Nat × Int) × List Nat) :=
  if (al (bs, false)).2.2.2 = false ∧ Lab.right (al (bs, false)).1 (al (bs, false)).2.1 = true then some ((al (bs, false)).1, (al (bs, false)).2.1, (al (bs, false)).2.2.1) else none
/-- A pair's bytes, and a label's. -/
def pair (p : Nat × Int) : List Nat := [p.1 / 16777216 % 256, p.1 / 65536 % 256, p.1 / 256 % 256, p.1 % 256, p.2.toNat]
def prsB (ps : List (Nat × Int)) : List Nat := ps.flatMap pair
def lab (D : Int) (ps : List (Nat × Int)) : List Nat := D.toNat :: ps.length :: prsB ps
theorem prsB_cons (p : Nat × Int) (ps : List (Nat × Int)) : prsB (p :: ps) = pair p ++ prsB ps := rfl
theorem prsB_len : ∀ ps : List (Nat × Int), (prsB ps).length = 5 * ps.length
  | [] => rfl
  | p :: r => by rw [prsB_cons, List.length_append, prsB_len r]; simp [pair]; omega
theorem lab_len (D : Int) (ps : List (Nat × Int)) : (lab D ps).length = 2 + 5 * ps.length := by simp [lab, prsB_len]; omega
/-- Numbers that a label's bytes can hold. -/
def Small (D : Int) (ps : List (Nat × Int)) : Prop := 0 ≤ D ∧ D < 256 ∧ ps.length < 256 ∧ ∀ p ∈ ps, p.1 < 4294967296 ∧ 0 ≤ p.2 ∧ p.2 < 256
theorem lab_byte {D : Int} {ps : List (Nat × Int)} (h : Small D ps) : ∀ c ∈ lab D ps, c < 256 := by
  intro c hc
  obtain ⟨h1, h2, h3, h4⟩ := h
  simp only [lab, List.mem_cons] at hc
  rcases hc with rfl | rfl | hc
  · omega
  · omega
  · unfold prsB at hc
    obtain ⟨p, hp, hc⟩ := List.mem_flatMap.1 hc
    have := h4 p hp
    simp only [pair, List.mem_cons, List.not_mem_nil, or_false] at hc
    rcases hc with rfl | rfl | rfl | rfl | rfl <;> omega
theorem four (a b c d : Nat) : num [a, b, c, d] = ((a * 256 + b) * 256 + c) * 256 + d := by simp [num]
/-- What was read without a fault is what stood there. -/
theorem nx1_true {n : Nat} {s : St} (h : (nx n s).2.2 = false) : s.2 = false ∧ n ≤ s.1.length ∧ nx n s = (num (s.1.take n), (s.1.drop n, false)) := by
  unfold nx at h ⊢
  split
  · next hh => exact ⟨hh.1, hh.2, rfl⟩
  · next hh => rw [if_neg hh] at h; simp at h
theorem prs_true : ∀ (k : Nat) (s : St), (prs k s).2.2 = false → (∀ c ∈ s.1, c < 256) → s.2 = false ∧ s.1 = prsB (prs k s).1 ++ (prs k s).2.1
  | 0, s, h, _ => ⟨h, rfl⟩
  | k + 1, s, h, hb => by
      obtain ⟨bs, bad⟩ := s
      simp only [prs] at h ⊢
      have hb4 := nx_byte (n := 4) (s := (bs, bad)) hb
      have hb1 := nx_byte (n := 1) (s := (nx 4 (bs, bad)).2) hb4.2.1
      obtain ⟨i1, i2⟩ := prs_true k _ h hb1.2.1
      obtain ⟨j1, j2, j3⟩ := nx1_true i1
      obtain ⟨l1, l2, l3⟩ := nx1_true j1
      simp only at l1 l2
      subst l1
      rw [l3] at j2 j3 i2 ⊢
      simp only at j2 j3 i2 ⊢
      rw [j3] at i2 ⊢
      simp only at i2 ⊢
      refine ⟨trivial, ?_⟩
      rw [prsB_cons, List.append_assoc, ← i2]
      clear h hb4 hb1 i1 i2 j1 j3 l3
      match bs, l2, j2, hb with
      | a :: b :: c :: d :: e :: r, _, _, hb =>
        have h1 := hb a (by simp); have h2 := hb b (by simp); have h3 := hb c (by simp); have h4 := hb d (by simp); have h5 := hb e (by simp)
        simp only [List.take_succ_cons, List.take_zero, List.drop_succ_cons, List.drop_zero, pair, four, List.cons_append, List.nil_append]
        have e5 : (((num [e] : Nat) : Int)).toNat = e := by simp [num]
        rw [e5]
        congr 1
        · omega
        congr 1
        · omega
        congr 1
        · omega
        congr 1
        · omega
theorem rl_true {bs rest : List Nat} {D : Int} {ps : List (Nat × Int)} (hb : ∀ c ∈ bs, c < 256) (h : rl bs = some (D, ps, rest)) : Lab.right D ps = true ∧ bs = lab D ps ++ rest := by
  unfold rl at h
  split at h
  · next hh =>
    obtain ⟨h1, h2⟩ := hh
    simp only [Option.some.injEq, Prod.mk.injEq] at h
    obtain ⟨rfl, rfl, rfl⟩ := h
    refine ⟨h2, ?_⟩
    clear h2
    simp only [al] at h1 ⊢
    have hb1 := nx_byte (n := 1) (s := (bs, false)) hb
    have hb2 := nx_byte (n := 1) (s := (nx 1 (bs, false)).2) hb1.2.1
    obtain ⟨i1, i2⟩ := prs_true _ _ h1 hb2.2.1
    obtain ⟨j1, j2, j3⟩ := nx1_true i1
    obtain ⟨l1, l2, l3⟩ := nx1_true j1
    rw [lab, prs_len, List.cons_append, List.cons_append, ← i2]
    clear h1 hb1 hb2 i1 i2 j1
    rw [l3] at j2 j3 ⊢
    simp only at j2 j3 l2 ⊢
    rw [j3]
    simp only
    match bs, l2, j2 with
    | a :: b :: r, _, _ => simp [num]
  · simp at h
theorem prs_of : ∀ (ps : List (Nat × Int)) (rest : List Nat), (∀ p ∈ ps, p.1 < 4294967296 ∧ 0 ≤ p.2 ∧ p.2 < 256) → prs ps.length (prsB ps ++ rest, false) = (ps, (rest, false))
  | [], rest, _ => rfl
  | p :: r, rest, h => by
      have hp := h p (by simp)
      have ih := prs_of r rest fun q hq => h q (by simp [hq])
      rw [List.length_cons, prsB_cons, List.append_assoc]
      simp only [prs]
      rw [nx_ok (by simp [pair])]
      simp only [pair, List.cons_append, List.nil_append, List.take_succ_cons, List.take_zero, List.drop_succ_cons, List.drop_zero]
      rw [nx_ok (by simp)]
      simp only [List.take_succ_cons, List.take_zero, List.drop_succ_cons, List.drop_zero]
      rw [ih, four]
      obtain ⟨c, l⟩ := p
      simp only at hp ⊢
      have e1 : ((c / 16777216 % 256 * 256 + c / 65536 % 256) * 256 + c / 256 % 256) * 256 + c % 256 = c := by omega
      have e2 : ((num [l.toNat] : Nat) : Int) = l := by simp [num]; omega
      rw [e1, e2]
theorem right_small {D : Int} {ps : List (Nat × Int)} (h : Lab.right D ps = true) : 1 ≤ D ∧ D ≤ 4 ∧ ps.length ≤ 12 ∧ ∀ p ∈ ps, 1 ≤ p.1 ∧ p.1 ≤ 1073741824 ∧ 0 ≤ p.2 ∧ p.2 ≤ 4 := by
  unfold Lab.right at h
  have key : ∀ k, k ≤ ps.length → Lab.okTo D ps k = true → (1 ≤ D ∧ D ≤ 4 ∧ ps.length ≤ 12) ∧ ∀ i p, i < k → ps[i]? = some p → 1 ≤ p.1 ∧ p.1 ≤ 1073741824 ∧ 0 ≤ p.2 ∧ p.2 ≤ 4 := by
    intro k
    induction k with
    | zero => intro _ h; simp [Lab.okTo] at h; exact ⟨⟨h.1.1, h.1.2, h.2⟩, fun i p hi => by omega⟩
    | succ k ih =>
      intro hk h
      have hp : ps[k]? = some ps[k] := List.getElem?_eq_getElem (by omega)
      rw [Lab.okTo_step hp, Bool.and_eq_true, Bool.and_eq_true] at h
      obtain ⟨h1, h2, h3⟩ := h
      obtain ⟨i1, i2⟩ := ih (by omega) h1
      refine ⟨i1, fun i p hi hq => ?_⟩
      by_cases e : i = k
      · subst e
        rw [hp] at hq
        obtain rfl := Option.some.inj hq
        simp [Lab.goodP] at h2
        omega
      · exact i2 i p (by omega) hq
  obtain ⟨⟨k1, k2, k3⟩, k4⟩ := key _ (Nat.le_refl _) h
  refine ⟨k1, k2, k3, fun p hp => ?_⟩
  obtain ⟨i, hi⟩ := List.mem_iff_getElem?.1 hp
  exact k4 i p (List.getElem?_eq_some_iff.1 hi).1 hi
theorem small_of_right {D : Int} {ps : List (Nat × Int)} (h : Lab.right D ps = true) : Small D ps := by
  obtain ⟨h1, h2, h3, h4⟩ := right_small h
  exact ⟨by omega, by omega, by omega, fun p hp => by have := h4 p hp; omega⟩
theorem rl_of {D : Int} {ps : List (Nat × Int)} (rest : List Nat) (h : Lab.right D ps = true) : rl (lab D ps ++ rest) = some (D, ps, rest) := by
  obtain ⟨s1, s2, s3, s4⟩ := small_of_right h
  have e : al (lab D ps ++ rest, false) = (D, ps, (rest, false)) := by
    simp only [al, lab, List.cons_append]
    rw [nx_ok (by simp)]
    simp only [List.take_succ_cons, List.take_zero, List.drop_succ_cons, List.drop_zero]
    rw [nx_ok (by simp)]
    simp only [List.take_succ_cons, List.take_zero, List.drop_succ_cons, List.drop_zero]
    have e1 : num [D.toNat] = D.toNat := by simp [num]
    have e2 : num [ps.length] = ps.length := by simp [num]
    rw [e1, e2, prs_of ps rest s4, Int.toNat_of_nonneg s1]
  unfold rl
  rw [e]
  simp only
  rw [if_pos ⟨trivial, h⟩]
end Pk
-- with Kb
namespace Pk
set_option linter.unusedVariables false
set_option linter.unusedSimpArgs false

abbrev Lb := Int × List (Nat × Int)
end Pk
