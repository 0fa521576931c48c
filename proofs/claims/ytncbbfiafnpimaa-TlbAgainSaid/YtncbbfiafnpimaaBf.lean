/- What is found; pages that are put again. -/
import Derived.Test.YtncbbfiafnpimaaBe
set_option linter.unusedVariables false
set_option linter.unusedSimpArgs false
namespace Tl
theorem Ok.ix {g : Nat → En} {n : Nat} (h : Ok g n) {k : Nat} {p : Int} (hk : k < 4) (h0 : (g k).f ≠ 0) (hp : (g k).p = p) : ix g p = k :=
  ix_eq hk (hit_iff.2 ⟨h0, hp⟩) fun i hi => by
    cases e : hit g p i
    · rfl
    · obtain ⟨e0, e1⟩ := hit_iff.1 e
      have := h.one i k (by omega) hk e0 h0 (e1.trans hp.symm)
      omega
theorem seek_hit {g : Nat → En} {n : Nat} (h : Ok g n) {k : Nat} {p : Int} (b : Bool) (hk : k < 4) (h0 : (g k).f ≠ 0) (hp : (g k).p = p) : seek g p b = if b && !(g k).b then 0 else (g k).f := by
  rw [seek, h.ix hk h0 hp, if_neg (show ¬ ((k : Int) < 0) by omega), Int.toNat_natCast]
theorem ix_miss {g : Nat → En} {p : Int} (hn : ∀ i, i < 4 → (g i).f ≠ 0 → (g i).p ≠ p) : ix g p = -1 := ix_none fun i hi => hit_not.2 (hn i hi)
theorem seek_miss {g : Nat → En} {p : Int} (b : Bool) (hn : ∀ i, i < 4 → (g i).f ≠ 0 → (g i).p ≠ p) : seek g p b = 0 := by
  rw [seek, ix_miss hn, if_pos (by decide)]
theorem put_own {g : Nat → En} {n : Nat} (h : Ok g n) {k : Nat} {p : Int} (f : Int) (b : Bool) (hk : k < 4) (h0 : (g k).f ≠ 0) (hp : (g k).p = p) (hf : 1 ≤ f) : putG g n p f b = upd g k ⟨p, f, b⟩ ∧ putN g n p f = n := by
  have c1 : ¬ f < 1 := by omega
  have c2 : ¬ ((k : Int) < 0) := by omega
  unfold putG putN
  rw [h.ix hk h0 hp, if_neg c1, if_neg c1, if_neg c2, if_neg c2, Int.toNat_natCast]
  exact ⟨rfl, rfl⟩
theorem put_new {g : Nat → En} (n : Nat) {p : Int} (f : Int) (b : Bool) (hn : ∀ i, i < 4 → (g i).f ≠ 0 → (g i).p ≠ p) (hf : 1 ≤ f) : putG g n p f b = upd g n ⟨p, f, b⟩ ∧ putN g n p f = (n + 1) % 4 := by
  have c1 : ¬ f < 1 := by omega
  have c2 : (-1 : Int) < 0 := by decide
  unfold putG putN
  rw [ix_miss hn, if_neg c1, if_neg c1, if_pos c2, if_pos c2]
  exact ⟨rfl, rfl⟩
/-- What was put is found. -/
theorem put_at {g : Nat → En} {n : Nat} (h : Ok g n) (p f : Int) (b : Bool) (hf : 1 ≤ f) : ∃ k, k < 4 ∧ putG g n p f b k = ⟨p, f, b⟩ := by
  have c1 : ¬ f < 1 := by omega
  unfold putG
  rw [if_neg c1]
  rcases ix_cases g p with ⟨e, _⟩ | ⟨k, hk, e, _⟩
  · have c2 : (-1 : Int) < 0 := by decide
    rw [e, if_pos c2]; exact ⟨n, h.next, upd_same _ _ _⟩
  · have c2 : ¬ ((k : Int) < 0) := by omega
    rw [e, if_neg c2, Int.toNat_natCast]; exact ⟨k, hk, upd_same _ _ _⟩
theorem seek_put {g : Nat → En} {n : Nat} (h : Ok g n) (p f : Int) (b c : Bool) (hf : 1 ≤ f) : seek (putG g n p f b) p c = if c && !b then 0 else f := by
  obtain ⟨k, hk, e⟩ := put_at h p f b hf
  rw [seek_hit (h.put p f b) c hk (by rw [e]; show f ≠ 0; omega) (by rw [e]), e]
theorem cnt_le (g : Nat → En) : ∀ k, cnt g k ≤ k
  | 0 => Nat.le_refl _
  | k + 1 => by rw [cnt]; have := cnt_le g k; split <;> omega
theorem cnt_all {g : Nat → En} : ∀ {k : Nat}, (∀ i, i < k → (g i).f ≠ 0) → cnt g k = k
  | 0, _ => rfl
  | k + 1, h => by rw [cnt, cnt_all fun i hi => h i (by omega), if_neg (h k (by omega))]
theorem cnt_pos {g : Nat → En} : ∀ {k i : Nat}, i < k → (g i).f ≠ 0 → 0 < cnt g k
  | k + 1, i, hi, h => by
    rw [cnt]
    by_cases e : i = k
    · rw [← e, if_neg h]; omega
    · have := cnt_pos (k := k) (i := i) (by omega) h
      omega
/-- Pages 0 to k - 1, in their places. -/
def F (k i : Nat) : En := if i < k then ⟨i, 10 + i, false⟩ else bare0
theorem F_zero : F 0 = fun _ => bare0 := rfl
theorem F_step (k : Nat) (hk : k < 4) : putG (F k) k (k : Int) (10 + (k : Int)) false = F (k + 1) ∧ putN (F k) k (k : Int) (10 + (k : Int)) = (k + 1) % 4 := by
  obtain ⟨e1, e2⟩ := put_new (g := F k) k (p := (k : Int)) (10 + (k : Int)) false (fun i _ hi => by
    unfold F at hi ⊢
    by_cases e : i < k
    · rw [if_pos e]; show (i : Int) ≠ k; omega
    · rw [if_neg e] at hi; exact absurd rfl hi) (by omega)
  refine ⟨?_, e2⟩
  rw [e1]
  funext i
  unfold upd F
  by_cases e : i = k
  · subst e; rw [if_pos rfl, if_pos (by omega)]
  · rw [if_neg e]
    by_cases e' : i < k
    · rw [if_pos e', if_pos (by omega)]
    · rw [if_neg e', if_neg (by omega)]
/-- What was put last, of j pages q 0, q 1 ... -/
def wm (q : Nat → Nat) : Nat → Nat → En
  | 0, i => F 4 i
  | j + 1, i => if i = q j then ⟨i, 100 + (j : Int), decide (j % 2 = 0)⟩ else wm q j i
theorem wm_p (q : Nat → Nat) {i : Nat} (hi : i < 4) : ∀ j, (wm q j i).p = i ∧ 0 < (wm q j i).f
  | 0 => by rw [wm, F, if_pos hi]; exact ⟨rfl, by show (0 : Int) < 10 + i; omega⟩
  | j + 1 => by
    rw [wm]
    by_cases e : i = q j
    · rw [if_pos e]; exact ⟨rfl, by show (0 : Int) < 100 + j; omega⟩
    · rw [if_neg e]; exact wm_p q hi j
theorem wm_step (q : Nat → Nat) (j : Nat) (hq : q j < 4) (n : Nat) (h : Ok (wm q j) n) : putG (wm q j) n (q j : Int) (100 + (j : Int)) (decide (j % 2 = 0)) = wm q (j + 1) ∧ putN (wm q j) n (q j : Int) (100 + (j : Int)) = n := by
  obtain ⟨a, b⟩ := wm_p q hq j
  obtain ⟨e1, e2⟩ := put_own h (100 + (j : Int)) (decide (j % 2 = 0)) hq (by omega) a (by omega)
  refine ⟨?_, e2⟩
  rw [e1]
  funext i
  unfold upd
  rw [wm]
  by_cases e : i = q j
  · rw [if_pos e, if_pos e, e]
  · rw [if_neg e, if_neg e]
theorem wm_find (q : Nat → Nat) (j : Nat) {i n : Nat} (hi : i < 4) (h : Ok (wm q j) n) (b : Bool) : seek (wm q j) (i : Int) b = if b && !(wm q j i).b then 0 else (wm q j i).f := by
  obtain ⟨a, c⟩ := wm_p q hi j
  exact seek_hit h b hi (by omega) a
/-- One page more than there are places. -/
theorem wm_more (q : Nat → Nat) (j : Nat) (p : Int) (hp : 4 ≤ p) (h : Ok (wm q j) 0) : putG (wm q j) 0 p 7 true = upd (wm q j) 0 ⟨p, 7, true⟩ ∧ cnt (upd (wm q j) 0 ⟨p, 7, true⟩) 4 = 4 ∧
    (∀ n, Ok (upd (wm q j) 0 ⟨p, 7, true⟩) n → seek (upd (wm q j) 0 ⟨p, 7, true⟩) 0 false = 0 ∧ seek (upd (wm q j) 0 ⟨p, 7, true⟩) p true = 7) := by
  have hm : ∀ i, i < 4 → (wm q j i).f ≠ 0 → (wm q j i).p ≠ p := fun i hi _ => by rw [(wm_p q hi j).1]; omega
  refine ⟨(put_new 0 7 true hm (by omega)).1, cnt_all fun i hi => ?_, fun n hn => ⟨seek_miss false fun i hi _ => ?_, ?_⟩⟩
  · by_cases e : i = 0
    · rw [e, upd_same]; show (7 : Int) ≠ 0; decide
    · rw [upd_ne _ _ e]; have := (wm_p q hi j).2; omega
  · by_cases e : i = 0
    · rw [e, upd_same]; show p ≠ 0; omega
    · rw [upd_ne _ _ e, (wm_p q hi j).1]; omega
  · rw [seek_hit hn true (k := 0) (by omega) (by rw [upd_same]; show (7 : Int) ≠ 0; decide) (by rw [upd_same]), upd_same]; rfl
end Tl
namespace Go.Proofs.Ytncbbfiafnpimaa
open Go.RowKit Tl
set_option linter.unusedVariables false
set_option linter.unusedSimpArgs false
theorem i64_and1 (n : Int) : bits .and .i64 n 1 = n % 2 := by
  have h127 : (BitVec.ofInt 64 1).toNat = 2 ^ 1 - 1 := by decide
  have key : (BitVec.ofInt 64 n &&& BitVec.ofInt 64 1).toNat = (n % ((2 ^ 64 : Nat) : Int)).toNat % 2 ^ 1 := by
    rw [BitVec.toNat_and, BitVec.toNat_ofInt, h127, Nat.and_two_pow_sub_one_eq_mod]
  show IntKind.i64.wrap ((BitVec.ofInt 64 n &&& BitVec.ofInt 64 1).toNat : Nat) = n % 2
  rw [key, IntKind.wrap_i64]
  omega
theorem i64_and3 (n : Int) : bits .and .i64 n 3 = n % 4 := by
  have h127 : (BitVec.ofInt 64 3).toNat = 2 ^ 2 - 1 := by decide
  have key : (BitVec.ofInt 64 n &&& BitVec.ofInt 64 3).toNat = (n % ((2 ^ 64 : Nat) : Int)).toNat % 2 ^ 2 := by
    rw [BitVec.toNat_and, BitVec.toNat_ofInt, h127, Nat.and_two_pow_sub_one_eq_mod]
  show IntKind.i64.wrap ((BitVec.ofInt 64 n &&& BitVec.ofInt 64 3).toNat : Nat) = n % 4
  rw [key, IntKind.wrap_i64]
  omega
theorem i64_and7 (n : Int) : bits .and .i64 n 7 = n % 8 := by
  have h127 : (BitVec.ofInt 64 7).toNat = 2 ^ 3 - 1 := by decide
  have key : (BitVec.ofInt 64 n &&& BitVec.ofInt 64 7).toNat = (n % ((2 ^ 64 : Nat) : Int)).toNat % 2 ^ 3 := by
    rw [BitVec.toNat_and, BitVec.toNat_ofInt, h127, Nat.and_two_pow_sub_one_eq_mod]
  show IntKind.i64.wrap ((BitVec.ofInt 64 n &&& BitVec.ofInt 64 7).toNat : Nat) = n % 8
  rw [key, IntKind.wrap_i64]
  omega
theorem i64_and65535 (n : Int) : bits .and .i64 n 65535 = n % 65536 := by
  have h127 : (BitVec.ofInt 64 65535).toNat = 2 ^ 16 - 1 := by decide
  have key : (BitVec.ofInt 64 n &&& BitVec.ofInt 64 65535).toNat = (n % ((2 ^ 64 : Nat) : Int)).toNat % 2 ^ 16 := by
    rw [BitVec.toNat_and, BitVec.toNat_ofInt, h127, Nat.and_two_pow_sub_one_eq_mod]
  show IntKind.i64.wrap ((BitVec.ofInt 64 n &&& BitVec.ofInt 64 65535).toNat : Nat) = n % 65536
  rw [key, IntKind.wrap_i64]
  omega
theorem and_nat (n : Int) : (∃ a : Nat, bits .and .i64 n 3 = (a : Int) ∧ a < 4) ∧ (∃ a : Nat, bits .and .i64 n 7 = (a : Int) ∧ a < 8) ∧ (∃ a : Nat, bits .and .i64 n 65535 = (a : Int) ∧ a < 65536) :=
  ⟨⟨(n % 4).toNat, by rw [i64_and3]; omega, by omega⟩, ⟨(n % 8).toNat, by rw [i64_and7]; omega, by omega⟩, ⟨(n % 65536).toNat, by rw [i64_and65535]; omega, by omega⟩⟩
end Go.Proofs.Ytncbbfiafnpimaa
