import Derived.Test.YtkpdgjmeeeddhaaKe
set_option linter.unusedVariables false
set_option linter.unusedSimpArgs false
namespace Pk
/-- The bytes that a number is read from. -/
def tk (n : Nat) (s : St) : List Nat := if s.2 = false ∧ n ≤ s.1.length then s.1.take n else []
theorem tk_num (n : Nat) (s : St) : (nx n s).1 = num (tk n s) := by unfold nx tk; split <;> rfl
theorem tk_len (n : Nat) (s : St) : (tk n s).length ≤ n := by
  unfold tk; split
  · exact List.length_take_le _ _
  · simp
theorem tk_byte {n : Nat} {s : St} (h : ∀ c ∈ s.1, c < 256) : ∀ c ∈ tk n s, c < 256 := by
  unfold tk; split
  · exact fun c hc => h c (List.mem_of_mem_take hc)
  · simp
end Pk
namespace Go.Proofs.Ytkpdgjmeeeddhaa
open Go.RowKit
set_option linter.unusedVariables false
set_option linter.unusedSimpArgs false

theorem take_any (R : Nat) (bs : List Nat) (bad : Bool) (n : Nat) (w : World) (h : Rd w R bs bad) :
    Calls Try.prog 38 #[.pointer (some ⟨R, 0, none⟩), .int .i64 n] w (Took w R (Pk.tk n (bs, bad)) (Pk.nx n (bs, bad)).2.1 (Pk.nx n (bs, bad)).2.2) := by
  unfold Pk.tk Pk.nx
  by_cases hb : bad = true
  · subst hb
    rw [if_neg (by simp), if_neg (by simp)]
    exact take_bad R bs n w h
  · obtain rfl : bad = false := by simpa using hb
    by_cases hl : n ≤ bs.length
    · rw [if_pos ⟨rfl, hl⟩, if_pos ⟨rfl, hl⟩]
      exact take_in R bs n w h hl
    · rw [if_neg (fun e => hl e.2), if_neg (fun e => hl e.2)]
      exact take_out R bs n w h (.inr (by omega))
theorem Rd.byte {w : World} {R : Nat} {bs : List Nat} {bad : Bool} (h : Rd w R bs bad) : ∀ x ∈ bs, x < 256 := by
  obtain ⟨_, _, _, _, _, _, h, _⟩ := h
  exact h
theorem or_byte (q y : Nat) (hq : q < 72057594037927936) (hy : y < 256) : bits .or .u64 (IntKind.u64.wrap ((q : Int) * 256)) (IntKind.u64.wrap (y : Int)) = ((q * 256 + y : Nat) : Int) := by
  have e1 : IntKind.u64.wrap ((q : Int) * 256) = ((q * 256 : Nat) : Int) := by rw [IntKind.wrap_u64]; omega
  have e2 : IntKind.u64.wrap (y : Int) = (y : Int) := by rw [IntKind.wrap_u64]; omega
  rw [e1, e2]
  have h1 : (BitVec.ofInt 64 ((q * 256 : Nat) : Int)).toNat = q * 256 := by rw [BitVec.toNat_ofInt]; omega
  have h2 : (BitVec.ofInt 64 (y : Int)).toNat = y := by rw [BitVec.toNat_ofInt]; omega
  show IntKind.u64.wrap ((BitVec.ofInt 64 ((q * 256 : Nat) : Int) ||| BitVec.ofInt 64 (y : Int)).toNat : Nat) = _
  rw [BitVec.toNat_or, h1, h2]
  have e : q * 256 ||| y = q * 256 + y := by
    have := Nat.shiftLeft_add_eq_or_of_lt (i := 8) (b := y) (by simpa using hy) q
    rw [Nat.shiftLeft_eq] at this
    exact this.symm
  rw [e, IntKind.wrap_u64]
  omega
theorem ret_u64 {a b : Int} (h : a = b) : Ending.returned (.int .u64 a) = .returned (.int .u64 b) := by rw [h]
/-- What a reader's Num answers. -/
def Numd (W : World) (R : Nat) (r : Nat × Pk.St) (e : Ending) (w' : World) : Prop := e = .returned (.int .u64 (r.1 : Int)) ∧ Rd w' R r.2.1 r.2.2 ∧ W.grownBy w' (some R)
set_option maxHeartbeats 1000000 in
theorem num_any (R : Nat) (bs : List Nat) (bad : Bool) (n : Nat) (w : World) (h : Rd w R bs bad) (h1 : 1 ≤ n) (h8 : n ≤ 8) :
    Calls Try.prog 32 #[.pointer (some ⟨R, 0, none⟩), .int .i64 n] w (Numd w R (Pk.nx n (bs, bad))) := by
  have C := Lib.hid (take_any R bs bad n w h)
  have hby := Lib.hid (Pk.tk_byte (n := n) (s := (bs, bad)) h.byte)
  have hnum := Lib.hid (Pk.tk_num n (bs, bad))
  have hl := Pk.tk_len n (bs, bad)
  obtain ⟨ts, et⟩ : ∃ ts, Pk.tk n (bs, bad) = ts := ⟨_, rfl⟩
  obtain ⟨s, es⟩ : ∃ s, Pk.nx n (bs, bad) = s := ⟨_, rfl⟩
  obtain ⟨m, em⟩ : ∃ m, ts.length = m := ⟨_, rfl⟩
  rw [et] at C hby hnum hl
  rw [es] at C hnum ⊢
  rw [em] at hl
  have EM := Lib.hid em
  clear et es em h
  go_enter Try.func32, Try.ntmps32
  go_wp2_with fail
  refine C.out.mono ?_
  rintro e w1 ⟨A, c, rfl, hc, hy, hr, hg⟩
  have HY := Lib.hid hy
  have HR := Lib.hid hr
  have HG := Lib.hid hg
  rw [EM.out] at hc ⊢
  clear hy hr hg
  go_wp2_with fail
  go_loop [5, 20] (fun x i => ∃ k : Nat, k ≤ m ∧ i = .int .i64 k ∧ x = .int .u64 (Pk.num (ts.take k))) (fun _ i => m - (intOf i).toNat)
  case atStart => exact ⟨0, Nat.zero_le _, rfl, rfl⟩
  case round =>
    obtain ⟨k, hk, rfl, rfl⟩ := hrel
    by_cases hlt : k < m
    · obtain ⟨y, hy⟩ : ∃ y, ts[k]? = some y := ⟨_, List.getElem?_eq_getElem (by rw [EM.out]; exact hlt)⟩
      obtain ⟨b, off, rfl, hb, hcell⟩ := HY.out.br k y hy
      have hnt := Lib.hid (Pk.num_take hy)
      obtain ⟨q, eq⟩ : ∃ q, Pk.num (ts.take k) = q := ⟨_, rfl⟩
      rw [eq] at hnt ⊢
      have hy2 := hby.out y (List.mem_of_getElem? hy)
      have hq : q < 72057594037927936 := by
        have := Pk.num_lt k (ts.take k) (by rw [List.length_take, EM.out]; omega) (fun c hc => hby.out c (List.mem_of_mem_take hc))
        rw [eq] at this
        exact Nat.lt_of_lt_of_le this (Nat.le_trans (Nat.pow_le_pow_right (by omega) (show k ≤ 7 by omega)) (by decide))
      have hor := or_byte q y hq hy2
      clear hy eq hq hy2
      go_wp2_with fail
      clear hor
      go_round
      case rel => exact ⟨k + 1, by omega, by go_num, by rw [hnt.out]; go_num⟩
      case measure => simp [intOf]; omega
    · have hall := Lib.hid (List.take_of_length_le (l := ts) (i := k) (by rw [EM.out]; omega))
      go_wp2_with fail
      go_ret
      exact ⟨ret_u64 (by rw [hnum.out, hall.out]), HR.out, HG.out⟩
end Go.Proofs.Ytkpdgjmeeeddhaa

