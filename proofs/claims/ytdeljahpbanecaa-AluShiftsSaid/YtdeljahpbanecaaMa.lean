import Derived.Laws.FloatBits
/- Plain facts on double precision words: which words are no number, what the operations of Ieee hand back. -/
namespace Flo
open Ieee
set_option linter.unusedVariables false
set_option linter.unusedSimpArgs false

abbrev D : Format := Ieee.double
def NaN : Nat := 9221120237041090560
theorem d_sign : D.signWeight = 9223372036854775808 := rfl
theorem d_bin : D.binade = 4503599627370496 := rfl
theorem d_inf : D.infRung = 9218868437227405312 := rfl
theorem d_least : D.leastPlace = -1074 := rfl
/-- The word is no number. -/
def nanB (x : Nat) : Bool := decide (9218868437227405312 < x % 9223372036854775808)
theorem read_eq (x : Nat) : D.read x =
    if x % 9223372036854775808 < 4503599627370496 then .number (x / 9223372036854775808 % 2 == 1) (x % 9223372036854775808) (-1074)
    else if x % 9223372036854775808 < 9218868437227405312 then
      .number (x / 9223372036854775808 % 2 == 1) (4503599627370496 + x % 9223372036854775808 % 4503599627370496) (-1074 + (x % 9223372036854775808 / 4503599627370496 - 1 : Nat))
    else if x % 9223372036854775808 = 9218868437227405312 then .infinity (x / 9223372036854775808 % 2 == 1)
    else .nan (x / 9223372036854775808 % 2 == 1) (x % 9223372036854775808 - 9218868437227405312) := rfl
theorem read_nan {x : Nat} (h : nanB x = true) : ∃ s t, D.read x = .nan s t := by
  have h' : 9218868437227405312 < x % 9223372036854775808 := of_decide_eq_true h
  rw [read_eq, if_neg (by omega), if_neg (by omega), if_neg (by omega)]
  exact ⟨_, _, rfl⟩
theorem read_notnan {x : Nat} (h : nanB x = false) : (∃ s m e, D.read x = .number s m e) ∨ (∃ s, D.read x = .infinity s) := by
  have h' : ¬ 9218868437227405312 < x % 9223372036854775808 := of_decide_eq_false h
  rw [read_eq]
  split
  · exact .inl ⟨_, _, _, rfl⟩
  · split
    · exact .inl ⟨_, _, _, rfl⟩
    · rw [if_pos (by omega)]; exact .inr ⟨_, rfl⟩
theorem order_nan {x : Nat} (h : nanB x = true) : D.order x x = none := by
  obtain ⟨s, t, e⟩ := read_nan h
  unfold Format.order; rw [e]; rfl
theorem order_num {x : Nat} (h : nanB x = false) : D.order x x = some .eq := by
  unfold Format.order
  rcases read_notnan h with ⟨s, m, p, e⟩ | ⟨s, e⟩ <;> rw [e]
  · simp [Datum.order]
  · simp [Datum.order]
theorem order_nan_left {x y : Nat} (h : nanB x = true) : D.order x y = none := by
  obtain ⟨s, t, e⟩ := read_nan h
  unfold Format.order; rw [e]; rfl
theorem order_nan_right {x y : Nat} (h : nanB y = true) : D.order x y = none := by
  obtain ⟨s, t, e⟩ := read_nan h
  unfold Format.order; rw [e]; cases D.read x <;> rfl
theorem word_notnan (neg : Bool) {r : Nat} (h : r ≤ 9218868437227405312) : nanB (D.word neg r) = false := by
  unfold nanB Format.word; rw [d_sign]
  apply decide_eq_false
  cases neg
  · rw [if_neg (by simp)]; omega
  · rw [if_pos rfl]; omega
theorem nearest_notnan (neg : Bool) (m : Nat) (p : Int) : nanB (D.nearest neg m p) = false := by
  unfold Format.nearest
  dsimp only
  split
  · exact word_notnan _ (by omega)
  · exact word_notnan _ (Nat.le_trans (Nat.min_le_right ..) (Nat.le_of_eq d_inf))
def notNanD : Datum → Bool
  | .nan .. => false
  | _ => true
theorem write_notnan {d : Datum} (h : notNanD d = true) : nanB (D.write d) = false := by
  cases d with
  | number s m p => exact nearest_notnan ..
  | infinity s => exact word_notnan _ (Nat.le_of_eq d_inf)
  | nan s t => cases h
theorem sum_notnan {a b d : Datum} (h : a.sum b = some d) : notNanD d = true := by
  cases a <;> cases b <;> simp only [Datum.sum] at h <;> first | (cases h; rfl) | (split at h <;> cases h <;> rfl) | cases h
theorem product_notnan {a b d : Datum} (h : a.product b = some d) : notNanD d = true := by
  cases a <;> cases b <;> simp only [Datum.product] at h <;> first | (cases h; rfl) | (split at h <;> cases h <;> rfl) | cases h
theorem quotient_notnan {k : Nat} {a b d : Datum} (h : a.quotient k b = some d) : notNanD d = true := by
  cases a <;> cases b <;> simp only [Datum.quotient] at h <;> first | (cases h; rfl) | (split at h <;> first | (cases h <;> rfl) | (split at h <;> cases h <;> rfl)) | cases h
theorem root_notnan {k : Nat} {a d : Datum} (h : a.root k = some d) : notNanD d = true := by
  cases a <;> simp only [Datum.root] at h
  · split at h
    · cases h; rfl
    · split at h <;> cases h; rfl
  · split at h <;> cases h; rfl
  · cases h
theorem map_notnan {o : Option Datum} {r : Nat} (hh : ∀ d, o = some d → notNanD d = true) (h : o.map D.write = some r) : nanB r = false ∧ r < 18446744073709551616 := by
  refine ⟨?_, D.map_write_lt h⟩
  cases o with
  | none => cases h
  | some d => cases h; exact write_notnan (hh d rfl)
theorem add_notnan {x y r : Nat} (h : D.add x y = some r) : nanB r = false ∧ r < 18446744073709551616 := map_notnan (fun _ h => sum_notnan h) h
theorem sub_notnan {x y r : Nat} (h : D.sub x y = some r) : nanB r = false ∧ r < 18446744073709551616 := map_notnan (fun _ h => sum_notnan h) h
theorem mul_notnan {x y r : Nat} (h : D.mul x y = some r) : nanB r = false ∧ r < 18446744073709551616 := map_notnan (fun _ h => product_notnan h) h
theorem div_notnan {x y r : Nat} (h : D.div x y = some r) : nanB r = false ∧ r < 18446744073709551616 := map_notnan (fun _ h => quotient_notnan h) h
theorem sqrt_notnan {x r : Nat} (h : D.sqrt x = some r) : nanB r = false ∧ r < 18446744073709551616 := map_notnan (fun _ h => root_notnan h) h
/-- What the program hands back: the operation's word, or the one NaN. -/
def fin (o : Option Nat) : Nat := o.getD NaN
def fAdd (x y : Nat) : Nat := fin (D.add x y)
def fSub (x y : Nat) : Nat := fin (D.sub x y)
def fMul (x y : Nat) : Nat := fin (D.mul x y)
def fDiv (x y : Nat) : Nat := fin (D.div x y)
def fSqrt (x : Nat) : Nat := fin (D.sqrt x)
theorem nan_cut (t : Nat) : nanB ((t % 2) * 2 ^ 63 + 0x7ff0000000000000 + 1 + (t / 2) % (2 ^ 52 - 1)) = true := by
  unfold nanB
  apply decide_eq_true
  have h : (t / 2) % (2 ^ 52 - 1) < 2 ^ 52 - 1 := Nat.mod_lt _ (by decide)
  generalize (t / 2) % (2 ^ 52 - 1) = c at h ⊢
  have h2 : t % 2 = 0 ∨ t % 2 = 1 := by omega
  rcases h2 with e | e <;> rw [e] <;> omega
end Flo
