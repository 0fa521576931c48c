/- What labels tell of one another: the laws' mathematics. -/
import Derived.Test.YtmbdglhihakkjaaQl
set_option linter.unusedVariables false
set_option linter.unusedSimpArgs false
namespace Go.Proofs.Ytmbdglhihakkjaa
open Go.RowKit
set_option linter.unusedVariables false
set_option linter.unusedSimpArgs false
section
variable {D E F : Int} {P Q R : LP}
theorem up_at (o : Lab.Ok D P) (c : Nat) : Lab.at' (Lab.turn 0 5 D) (Lab.tn 0 5 D P) c = if Lab.at' D P c = 0 then 5 else Lab.at' D P c := Lab.tn_at o c
theorem rest_at (o : Lab.Ok D P) (c : Nat) : Lab.at' (Lab.turn 0 2 D) (Lab.tn 0 2 D P) c = if Lab.at' D P c = 0 then 2 else Lab.at' D P c := Lab.tn_at o c
theorem rd_iff (o : Lab.Ok D P) : rd D P E Q = true ↔ ∀ c, Lab.at' E Q c ≤ if Lab.at' D P c = 0 then 5 else Lab.at' D P c := by
  unfold rd; rw [lq_iff]
  constructor
  · intro h c; have := h c; rwa [up_at o] at this
  · intro h c; rw [up_at o]; exact h c
theorem ch_iff (o : Lab.Ok D P) : ch D P E Q = true ↔ (∀ c, Lab.at' D P c ≤ Lab.at' E Q c) ∧ ∀ c, Lab.at' E Q c ≤ if Lab.at' D P c = 0 then 5 else Lab.at' D P c := by
  unfold ch; rw [Bool.and_eq_true, lq_iff, rd_iff o]; exact Iff.rfl
/-- Who owns nothing is at 0 nowhere. -/
theorem not_owned (h : Lab.Fine D P) (hn : (Lab.owns P).length = 0) (c : Nat) : Lab.at' D P c ≠ 0 := fun e => by
  obtain ⟨p, hp, rfl⟩ := Lab.at_ne (D := D) (ps := P) (c := c) (by have := h.2.1; omega)
  rw [Lab.at_mem h.1.1 hp] at e
  have : p.1 ∈ Lab.owns P := by unfold Lab.owns; exact List.mem_map.2 ⟨p, List.mem_filter.2 ⟨hp, by simp [e]⟩, rfl⟩
  rw [List.eq_nil_of_length_eq_zero hn] at this
  cases this
theorem owned_mem (h : Lab.Fine D P) {c : Nat} (e : Lab.at' D P c = 0) : c ∈ Lab.owns P := by
  obtain ⟨p, hp, rfl⟩ := Lab.at_ne (D := D) (ps := P) (c := c) (by have := h.2.1; omega)
  rw [Lab.at_mem h.1.1 hp] at e
  unfold Lab.owns; exact List.mem_map.2 ⟨p, List.mem_filter.2 ⟨hp, by simp [e]⟩, rfl⟩
theorem mem_owned (o : Lab.Ok D P) {c : Nat} (h : c ∈ Lab.owns P) : Lab.at' D P c = 0 := Lab.at_mem o.1 (mem_owns h)
theorem chains (h : Lab.Fine D P) (h1 : rd D P E Q = true) (h2 : ch D P F R = true) (hn : (Lab.owns P).length = 0) : lq E Q F R = true := lq_iff.2 fun c => by
  have a := (rd_iff h.1).1 h1 c
  have b := ((ch_iff h.1).1 h2).1 c
  rw [if_neg (not_owned h hn c)] at a
  omega
theorem tr_at (h : Lab.Fine E Q) (ht : tr D P Q = true) (c : Nat) (e : Lab.at' E Q c = 0) : Lab.at' D P c = 0 ∨ Lab.at' D P c = 4 := tr_iff.1 ht c (owned_mem h e)
/-- Who changes what is seen is seen at rest: t (D P), o (E Q), observer (F R). -/
theorem seen (h : Lab.Fine D P) (hf : Lab.Fine F R) (h1 : ch D P E Q = true) (h2 : rd F R E Q = true) (h3 : tr F R P = true) : rd F R (Lab.turn 0 2 D) (Lab.tn 0 2 D P) = true := (rd_iff hf.1).2 fun c => by
  rw [rest_at h.1]
  have a := ((ch_iff h.1).1 h1).1 c
  have b := (rd_iff hf.1).1 h2 c
  by_cases e : Lab.at' D P c = 0
  · rw [if_pos e]
    rcases tr_at h h3 c e with g | g
    · rw [if_pos g]; omega
    · rw [if_neg (by omega)]; omega
  · rw [if_neg e]; omega
/-- What is read by one that is seen is seen. -/
theorem reads (h : Lab.Fine D P) (hq : Lab.Fine E Q) (hf : Lab.Fine F R) (h1 : rd D P E Q = true) (h2 : rd F R (Lab.turn 0 2 D) (Lab.tn 0 2 D P) = true) (h3 : tr F R P = true) : rd F R E Q = true := (rd_iff hf.1).2 fun c => by
  have a := (rd_iff h.1).1 h1 c
  have b := (rd_iff hf.1).1 h2 c
  rw [rest_at h.1] at b
  have q := (fine_at hq c).2
  by_cases e : Lab.at' D P c = 0
  · rcases tr_at h h3 c e with g | g
    · rw [if_pos g]; omega
    · rw [if_neg (by omega)]; omega
  · rw [if_neg e] at a b; omega
theorem ls_at (o1 : Lab.Ok D P) (o2 : Lab.Ok E Q) (c : Nat) : Lab.at' (lsD D E) (lsP D P E Q) c = Lab.turn 5 0 (max (Lab.turn 0 5 (Lab.at' D P c)) (Lab.turn 0 5 (Lab.at' E Q c))) := by
  unfold lsD lsP
  rw [Lab.tn_at (Lab.jn_ok (Lab.tn_ok o1) (Lab.tn_ok o2)), Lab.jn_at (Lab.tn_ok o1) (Lab.tn_ok o2), Lab.tn_at o1, Lab.tn_at o2]
/-- Who enters a gate that owns a category may own it. -/
theorem gates_owned (h : Lab.Fine D P) (h2 : Lab.Fine E Q) {c : Nat} (hc1 : 1 ≤ c) (hc2 : c < 4294967296) : Lab.at' (lsD D E) (lsP D P E (Lab.put E Q c 0)) c = 0 := by
  rw [ls_at h.1 (Lab.put_ok h2.1 hc1 hc2), Lab.put_at, if_pos rfl]
  have := fine_at h c
  unfold Lab.turn
  rw [if_pos (rfl : (0 : Int) = 0)]
  by_cases e : Lab.at' D P c = 0
  · rw [if_pos e]; rfl
  · rw [if_neg e, show max (Lab.at' D P c) 5 = 5 by omega]; rfl
/-- A gate that owns nothing gives nothing. -/
theorem gates_none (h : Lab.Fine D P) : lsD D 1 = D ∧ lsP D P 1 [] = P := by
  have hD : lsD D 1 = D := by
    have := h.2.1; have := h.2.2.1
    unfold lsD Lab.turn
    rw [if_neg (by omega : ¬ D = 0), if_neg (by omega : ¬ (1 : Int) = 0), show max D 1 = D by omega, if_neg (by omega)]
  have hok : Lab.Ok (lsD D 1) (lsP D P 1 []) := Lab.tn_ok (Lab.jn_ok (Lab.tn_ok h.1) (Lab.tn_ok (ok_nil 1)))
  refine ⟨hD, ?_⟩
  rw [hD] at hok
  refine Lab.ok_ext hok h.1 fun c => ?_
  have e := ls_at h.1 (ok_nil 1) c
  rw [hD] at e
  rw [e]
  have := fine_at h c
  have e1 : Lab.at' 1 [] c = 1 := rfl
  rw [e1]
  unfold Lab.turn
  rw [if_neg (by omega : ¬ (1 : Int) = 0)]
  by_cases e0 : Lab.at' D P c = 0
  · rw [if_pos e0, e0]; rfl
  · rw [if_neg e0, show max (Lab.at' D P c) 1 = Lab.at' D P c by omega, if_neg (by omega)]
end
theorem w_succ (k : Nat) (h : k ≤ 1000) : RowKit.wrap64 ((k : Int) + 1) = ((k + 1 : Nat) : Int) := by unfold RowKit.wrap64; omega
theorem w_succ2 (k : Nat) (h : k ≤ 1000) : IntKind.i64.wrap ((k : Int) + 1) = ((k + 1 : Nat) : Int) := by rw [IntKind.wrap_i64]; omega
/-- The lowest bits of a number of 32 bits. -/
theorem and63 (n : Int) : bits .and .u32 n 63 = n % 64 := by
  have h3 : (BitVec.ofInt 32 63).toNat = 2 ^ 6 - 1 := by decide
  have key : (BitVec.ofInt 32 n &&& BitVec.ofInt 32 63).toNat = (n % ((2 ^ 32 : Nat) : Int)).toNat % 2 ^ 6 := by
    rw [BitVec.toNat_and, BitVec.toNat_ofInt, h3, Nat.and_two_pow_sub_one_eq_mod]
  show IntKind.u32.wrap ((BitVec.ofInt 32 n &&& BitVec.ofInt 32 63).toNat : Nat) = n % 64
  rw [key]
  have : IntKind.u32.wrap (((n % ((2 ^ 32 : Nat) : Int)).toNat % 2 ^ 6 : Nat) : Int) = (((n % ((2 ^ 32 : Nat) : Int)).toNat % 2 ^ 6 : Nat) : Int) % 4294967296 := rfl
  rw [this]
  omega
theorem and1023 (n : Int) : bits .and .u32 n 1023 = n % 1024 := by
  have h3 : (BitVec.ofInt 32 1023).toNat = 2 ^ 10 - 1 := by decide
  have key : (BitVec.ofInt 32 n &&& BitVec.ofInt 32 1023).toNat = (n % ((2 ^ 32 : Nat) : Int)).toNat % 2 ^ 10 := by
    rw [BitVec.toNat_and, BitVec.toNat_ofInt, h3, Nat.and_two_pow_sub_one_eq_mod]
  show IntKind.u32.wrap ((BitVec.ofInt 32 n &&& BitVec.ofInt 32 1023).toNat : Nat) = n % 1024
  rw [key]
  have : IntKind.u32.wrap (((n % ((2 ^ 32 : Nat) : Int)).toNat % 2 ^ 10 : Nat) : Int) = (((n % ((2 ^ 32 : Nat) : Int)).toNat % 2 ^ 10 : Nat) : Int) % 4294967296 := rfl
  rw [this]
  omega
end Go.Proofs.Ytmbdglhihakkjaa
