import Derived.Test.YtkpdgjmeeeddhaaRows
set_option linter.unusedVariables false
set_option linter.unusedSimpArgs false
/- Bytes: what a reader makes of them, and what numbers and labels become. -/
namespace Pk
set_option linter.unusedVariables false
set_option linter.unusedSimpArgs false

/-- The number that bytes are, the highest first. -/
def num (bs : List Nat) : Nat := bs.foldl (fun x c => x * 256 + c) 0
/-- The lowest n bytes of a number, the highest first. -/
def enc : Nat → Nat → List Nat
  | 0, _ => []
  | n + 1, x => enc n (x / 256) ++ [x % 256]
theorem num_snoc (bs : List Nat) (c : Nat) : num (bs ++ [c]) = num bs * 256 + c := by unfold num; rw [List.foldl_append]; rfl
theorem enc_len : ∀ (n x : Nat), (enc n x).length = n
  | 0, _ => rfl
  | n + 1, x => by rw [enc, List.length_append, enc_len n]; rfl
theorem num_enc : ∀ (n x : Nat), num (enc n x) = x % 256 ^ n
  | 0, x => by simp [num, enc, Nat.mod_one]
  | n + 1, x => by
      rw [enc, num_snoc, num_enc n, Nat.pow_succ, Nat.mul_comm (256 ^ n) 256, Nat.mod_mul]
      omega
theorem num_lt : ∀ (n : Nat) (bs : List Nat), bs.length = n → (∀ c ∈ bs, c < 256) → num bs < 256 ^ n := by
  intro n
  induction n with
  | zero => intro bs h _; rw [List.eq_nil_of_length_eq_zero h]; simp [num]
  | succ n ih =>
    intro bs h hb
    have hne : bs ≠ [] := by intro e; subst e; simp at h
    have e := List.dropLast_concat_getLast hne
    rw [← e, num_snoc]
    have h1 := ih bs.dropLast (by simp [h]) (fun c hc => hb c (List.dropLast_subset bs hc))
    have h2 := hb _ (List.getLast_mem hne)
    rw [Nat.pow_succ]; omega
theorem num_take {bs : List Nat} {k c : Nat} (h : bs[k]? = some c) : num (bs.take (k + 1)) = num (bs.take k) * 256 + c := by
  rw [List.take_add_one, h]; exact num_snoc _ _
/-- A reader: the bytes that are left; has it failed? -/
abbrev St := List Nat × Bool
/-- The next number of n bytes. -/
def nx (n : Nat) (s : St) : Nat × St := if s.2 = false ∧ n ≤ s.1.length then (num (s.1.take n), (s.1.drop n, false)) else (0, (s.1, true))
end Pk

