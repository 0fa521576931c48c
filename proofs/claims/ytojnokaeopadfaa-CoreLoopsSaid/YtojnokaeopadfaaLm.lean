/- A program that counts down, reckoned. -/
import Derived.Test.YtojnokaeopadfaaKa
set_option linter.unusedVariables false
set_option linter.unusedSimpArgs false
namespace Cor
/-- The five instructions. -/
structure I5 where
  o : Nat
  a : Nat
  b : Nat
  m : Int
def ins (n : Nat) (add : Int) : Nat → I5
  | 0 => ⟨2, 1, 0, n⟩
  | 1 => ⟨18, 2, 2, add⟩
  | 2 => ⟨18, 1, 1, -1⟩
  | 3 => ⟨26, 1, 0, -2⟩
  | _ => ⟨1, 0, 0, 0⟩
def I5.enc (x : I5) : List Nat := Isa.enc x.o x.a x.b 0 x.m
theorem enc_len (x : I5) : x.enc.length = 8 := rfl
/-- The first k are laid. -/
def fl (n : Nat) (add : Int) : Nat → Nat → Nat
  | 0 => fun _ => 0
  | k + 1 => lay (fl n add k) (8 * k) (ins n add k).enc
theorem fl_lt (n : Nat) (add : Int) : ∀ k i, fl n add k i < 256
  | 0, i => Nat.zero_lt_succ _
  | k + 1, i => lay_lt (fl_lt n add k) _ (Go.Proofs.Ytojnokaeopadfaa.byte_enc _ _ _ _ _) i
theorem fl_at (n : Nat) (add : Int) (k : Nat) {q x : Nat} (h : (ins n add k).enc[q]? = some x) : ∀ j, k < j → fl n add j (8 * k + q) = x
  | 0, hk => by omega
  | j + 1, hk => by
    have hq := (List.getElem?_eq_some_iff.1 h).1
    rw [enc_len] at hq
    by_cases e : k = j
    · subst e; exact lay_at _ _ _ h
    · have := fl_at n add k h j (by omega)
      show lay (fl n add j) (8 * j) (ins n add j).enc (8 * k + q) = x
      rw [lay_ne _ _ _ (by omega)]
      exact this
/-- A step of the program at instruction k. -/
theorem stp_at (n : Nat) (add : Int) (h1 : n ≤ 64) (a1 : -2147483648 ≤ add) (a2 : add ≤ 2147483647) (R : Nat → Nat) (k : Nat) (hk : k < 5) : stp 128 0 ⟨R, 8 * k, fl n add 5⟩ = exec 128 0 (ins n add k).o (ins n add k).a (ins n add k).b 0 (ins n add k).m ⟨R, 8 * k, fl n add 5⟩ := by
  refine stp_enc 128 0 _ _ _ _ 0 _ (by show 8 * k < 262144; omega) (by show 8 * k % 8 = 0; omega) (by show decide (8 * k + 8 ≤ 128 ∧ _) = true; exact decide_eq_true ⟨by omega, .inl rfl⟩) (fun q x h => by exact fl_at n add k h 5 hk) ?_ ?_ ?_ ?_ (by decide) ?_ ?_
  all_goals
    match k, hk with
    | 0, _ => simp [ins]; try omega
    | 1, _ => simp [ins]; try omega
    | 2, _ => simp [ins]; try omega
    | 3, _ => simp [ins]; try omega
    | 4, _ => simp [ins]; try omega
def run (n : Nat) (add : Int) : Nat → S
  | 0 => ⟨fun _ => 0, 0, fl n add 5⟩
  | t + 1 => (stp 128 0 (run n add t)).1
/-- Registers 1 and 2. -/
def two (x y : Nat) : Nat → Nat := put (put (fun _ => 0) 1 x) 2 y
theorem two_1 (x y z : Nat) : put (two x y) 1 z = two z y := by
  funext i; unfold two put
  by_cases h1 : i = 1
  · subst h1; simp
  · by_cases h2 : i = 2 <;> simp [h1, h2]
theorem two_2 (x y z : Nat) : put (two x y) 2 z = two x z := by
  funext i; unfold two put
  by_cases h2 : i = 2 <;> simp [h2]
def sm (add : Int) (j : Nat) : Nat := ((j : Int) * add % 18446744073709551616).toNat
theorem run_1 (n : Nat) (add : Int) (h1 : n ≤ 64) (a1 : -2147483648 ≤ add) (a2 : add ≤ 2147483647) : stp 128 0 (run n add 0) = (⟨two n (sm add 0), 8, fl n add 5⟩, 0) := by
  have h := stp_at n add h1 a1 a2 (fun _ => 0) 0 (by decide)
  rw [show run n add 0 = ⟨fun _ => 0, 8 * 0, fl n add 5⟩ from rfl, h]
  have e : ext (n : Int) = n := by unfold ext; omega
  show ((⟨put (fun _ => 0) 1 (ext (n : Int)), nxt 0, fl n add 5⟩ : S), (0 : Int)) = _
  rw [e]
  have e2 : sm add 0 = 0 := by unfold sm; simp
  rw [e2]
  congr 2
  funext i; unfold two put
  by_cases h1 : i = 1
  · subst h1; simp
  · by_cases h2 : i = 2 <;> simp [h1, h2]
theorem run_add (n : Nat) (add : Int) (h1 : n ≤ 64) (a1 : -2147483648 ≤ add) (a2 : add ≤ 2147483647) (x j : Nat) : stp 128 0 ⟨two x (sm add j), 8, fl n add 5⟩ = (⟨two x (sm add (j + 1)), 16, fl n add 5⟩, 0) := by
  have h := stp_at n add h1 a1 a2 (two x (sm add j)) 1 (by decide)
  rw [show (8 : Nat) = 8 * 1 from rfl, h]
  show ((⟨put (two x (sm add j)) 2 ((two x (sm add j) 2 + ext add) % 18446744073709551616), nxt 8, fl n add 5⟩ : S), (0 : Int)) = _
  rw [two_2]
  have e : (two x (sm add j) 2 + ext add) % 18446744073709551616 = sm add (j + 1) := by
    show (sm add j + ext add) % 18446744073709551616 = sm add (j + 1)
    have e3 : ((j + 1 : Nat) : Int) * add = (j : Int) * add + add := by rw [Int.natCast_add, Int.add_mul]; simp
    unfold sm ext
    rw [e3]
    generalize (j : Int) * add = z
    omega
  rw [e]
  rfl
theorem run_dec (n : Nat) (add : Int) (h1 : n ≤ 64) (a1 : -2147483648 ≤ add) (a2 : add ≤ 2147483647) (x y : Nat) (hx : x < 1000) : stp 128 0 ⟨two (x + 1) y, 16, fl n add 5⟩ = (⟨two x y, 24, fl n add 5⟩, 0) := by
  have h := stp_at n add h1 a1 a2 (two (x + 1) y) 2 (by decide)
  rw [show (16 : Nat) = 8 * 2 from rfl, h]
  show ((⟨put (two (x + 1) y) 1 ((two (x + 1) y 1 + ext (-1)) % 18446744073709551616), nxt 16, fl n add 5⟩ : S), (0 : Int)) = _
  rw [two_1]
  have e : (two (x + 1) y 1 + ext (-1)) % 18446744073709551616 = x := by
    show (x + 1 + 18446744073709551615) % 18446744073709551616 = x
    omega
  rw [e]
  rfl
theorem run_bne (n : Nat) (add : Int) (h1 : n ≤ 64) (a1 : -2147483648 ≤ add) (a2 : add ≤ 2147483647) (x y : Nat) : stp 128 0 ⟨two x y, 24, fl n add 5⟩ = (⟨two x y, if x = 0 then 32 else 8, fl n add 5⟩, 0) := by
  have h := stp_at n add h1 a1 a2 (two x y) 3 (by decide)
  rw [show (24 : Nat) = 8 * 3 from rfl, h]
  show ((⟨two x y, if Alu.takes 26 (two x y 1) (two x y 0) = true then far 24 (-2) else nxt 24, fl n add 5⟩ : S), (0 : Int)) = _
  have e : Alu.takes 26 (two x y 1) (two x y 0) = !(decide (x = 0)) := by
    show Alu.takes 26 x 0 = _
    unfold Alu.takes
    simp
  rw [e]
  by_cases hx : x = 0
  · subst hx; rfl
  · rw [if_neg hx]
    simp only [hx, decide_false, Bool.not_false, if_true]
    rfl
theorem run_halt (n : Nat) (add : Int) (h1 : n ≤ 64) (a1 : -2147483648 ≤ add) (a2 : add ≤ 2147483647) (R : Nat → Nat) : stp 128 0 ⟨R, 32, fl n add 5⟩ = (⟨R, 32, fl n add 5⟩, 2) := by
  have h := stp_at n add h1 a1 a2 R 4 (by decide)
  rw [show (32 : Nat) = 8 * 4 from rfl, h]
  rfl
/-- Behind step 1 + 3 j. -/
theorem run_j (n : Nat) (add : Int) (h0 : 1 ≤ n) (h1 : n ≤ 64) (a1 : -2147483648 ≤ add) (a2 : add ≤ 2147483647) : ∀ j, j ≤ n → run n add (1 + 3 * j) = ⟨two (n - j) (sm add j), if j = n then 32 else 8, fl n add 5⟩
  | 0, _ => by
    show (stp 128 0 (run n add 0)).1 = _
    rw [run_1 n add h1 a1 a2, if_neg (by omega)]
    rfl
  | j + 1, hj => by
    have ih := run_j n add h0 h1 a1 a2 j (by omega)
    rw [if_neg (by omega)] at ih
    show (stp 128 0 (stp 128 0 (stp 128 0 (run n add (1 + 3 * j))).1).1).1 = _
    rw [ih, run_add n add h1 a1 a2]
    dsimp only
    rw [show n - j = (n - (j + 1)) + 1 by omega, run_dec n add h1 a1 a2 _ _ (by omega)]
    dsimp only
    rw [run_bne n add h1 a1 a2]
    dsimp only
    by_cases e : j + 1 = n
    · rw [if_pos e, if_pos (by omega)]
    · rw [if_neg e, if_neg (by omega)]
/-- Each step before the last runs. -/
theorem run_ran (n : Nat) (add : Int) (h0 : 1 ≤ n) (h1 : n ≤ 64) (a1 : -2147483648 ≤ add) (a2 : add ≤ 2147483647) (t : Nat) (ht : t < 1 + 3 * n) : (stp 128 0 (run n add t)).2 = 0 := by
  by_cases e0 : t = 0
  · subst e0; rw [run_1 n add h1 a1 a2]
  · obtain ⟨j, r, hr, rfl⟩ : ∃ j r, r < 3 ∧ t = 1 + 3 * j + r := ⟨(t - 1) / 3, (t - 1) % 3, by omega, by omega⟩
    have ih := run_j n add h0 h1 a1 a2 j (by omega)
    rw [if_neg (by omega)] at ih
    have s1 : stp 128 0 (run n add (1 + 3 * j)) = (⟨two (n - j) (sm add (j + 1)), 16, fl n add 5⟩, 0) := by rw [ih, run_add n add h1 a1 a2]
    have s2 : stp 128 0 (run n add (1 + 3 * j + 1)) = (⟨two (n - (j + 1)) (sm add (j + 1)), 24, fl n add 5⟩, 0) := by
      show stp 128 0 (stp 128 0 (run n add (1 + 3 * j))).1 = _
      rw [s1]
      dsimp only
      rw [show n - j = (n - (j + 1)) + 1 by omega, run_dec n add h1 a1 a2 _ _ (by omega)]
    match r, hr with
    | 0, _ => exact congrArg Prod.snd s1
    | 1, _ => exact congrArg Prod.snd s2
    | 2, _ =>
      show (stp 128 0 (stp 128 0 (run n add (1 + 3 * j + 1))).1).2 = 0
      rw [s2]
      dsimp only
      rw [run_bne n add h1 a1 a2]
theorem run_end (n : Nat) (add : Int) (h0 : 1 ≤ n) (h1 : n ≤ 64) (a1 : -2147483648 ≤ add) (a2 : add ≤ 2147483647) : run n add (1 + 3 * n) = ⟨two 0 (sm add n), 32, fl n add 5⟩ ∧ (stp 128 0 (run n add (1 + 3 * n))) = (⟨two 0 (sm add n), 32, fl n add 5⟩, 2) := by
  have h := run_j n add h0 h1 a1 a2 n (Nat.le_refl _)
  rw [if_pos rfl, Nat.sub_self] at h
  exact ⟨h, by rw [h, run_halt n add h1 a1 a2]⟩
theorem run_f (n : Nat) (add : Int) : ∀ t, Ok (run n add t)
  | 0 => ⟨fun _ => Nat.zero_lt_succ _, Nat.zero_lt_succ _, fl_lt n add 5⟩
  | t + 1 => stp_ok _ _ _ (run_f n add t)
end Cor
