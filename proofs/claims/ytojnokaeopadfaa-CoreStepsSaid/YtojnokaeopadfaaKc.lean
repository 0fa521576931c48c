/- Registers that came in, copied into a core. -/
import Derived.Test.YtojnokaeopadfaaKa
import Derived.Test.YtojnokaeopadfaaKb
set_option linter.unusedVariables false
set_option linter.unusedSimpArgs false
namespace Cor
/-- The first numbers are us. -/
def fill (us : List Nat) (R : Nat → Nat) : Nat → Nat := fun i => if i < us.length then us.getD i 0 else R i
theorem fill_lt {us : List Nat} {R : Nat → Nat} (h : ∀ i, R i < 18446744073709551616) (hu : ∀ x ∈ us, x < 18446744073709551616) : ∀ i, fill us R i < 18446744073709551616 := by
  intro i
  unfold fill
  split
  · rename_i hi
    rw [List.getD_eq_getElem?_getD, List.getElem?_eq_getElem hi]
    exact hu _ (List.getElem_mem _)
  · exact h i
end Cor
namespace Go.Proofs.Ytojnokaeopadfaa
open Go.RowKit

/-- Numbers that are read at A. -/
def UR (w : World) (A : Option Addr) (us : List Nat) : Prop := ∀ (i x : Nat), us[i]? = some x → ∃ b off, A = some ⟨b, off, none⟩ ∧ b < w.heap.size ∧ w.cell? ⟨b, off + i, none⟩ = some (.int .u64 (x : Int))
theorem UR.nr {w w' : World} {A : Option Addr} {us : List Nat} (h : UR w A us) (hb : Nr [] w w') : UR w' A us := fun i x hi => by
  obtain ⟨b, off, h1, h2, h3⟩ := h i x hi
  exact ⟨b, off, h1, Nat.lt_of_lt_of_le h2 hb.size, by rw [World.cell?_of_block (w := w) (hb.block b h2 (by simp))]; exact h3⟩
def U (us : List Nat) : List Value := us.map fun (x : Nat) => Value.int .u64 (x : Int)
theorem U_len (us : List Nat) : (U us).length = us.length := by simp [U]
theorem U_get {us : List Nat} {i : Nat} {v : Value} (h : (U us)[i]? = some v) : ∃ x : Nat, us[i]? = some x ∧ v = .int .u64 (x : Int) := by
  unfold U at h
  rw [List.getElem?_map] at h
  cases e : us[i]? with
  | none => rw [e] at h; cases h
  | some x => rw [e] at h; exact ⟨x, rfl, (Option.some.inj h).symm⟩
theorem U_at {us : List Nat} {i x : Nat} (h : us[i]? = some x) : (U us)[i]? = some (.int .u64 (x : Int)) := by
  unfold U
  rw [List.getElem?_map, h]; rfl
theorem U_one (us : List Nat) : ∀ v ∈ U us, v.oneCell' = true := by
  intro v hv
  unfold U at hv
  obtain ⟨x, _, rfl⟩ := List.mem_map.1 hv
  rfl
theorem size64 : (Try.prog.info? 32).map (·.size) = some 1 := by kernel_rfl
theorem rl_len (R : Nat → Nat) (pc : Nat) : (rl R pc).length = 17 := rfl
theorem rl_fill (us : List Nat) (R : Nat → Nat) (pc : Nat) (hn : us.length ≤ 16) : U us ++ (rl R pc).drop us.length = rl (Cor.fill us R) pc := by
  refine List.ext_getElem? fun i => ?_
  by_cases h1 : i < us.length
  · rw [List.getElem?_append_left (by rw [U_len]; exact h1), rl_at _ _ (by omega), U_at (List.getElem?_eq_getElem h1)]
    unfold Cor.fill
    rw [if_pos h1, List.getD_eq_getElem?_getD, List.getElem?_eq_getElem h1]
    rfl
  · rw [List.getElem?_append_right (by rw [U_len]; omega), U_len, List.getElem?_drop, show us.length + (i - us.length) = i by omega]
    by_cases h2 : i < 16
    · rw [rl_at _ _ h2, rl_at _ _ h2]
      unfold Cor.fill
      rw [if_neg h1]
    · by_cases h3 : i = 16
      · subst h3; rfl
      · rw [List.getElem?_eq_none (by rw [rl_len]; omega), List.getElem?_eq_none (by rw [rl_len]; omega)]
theorem copy_core {w : World} {c : Nat} {T : TypeId} {R : Nat → Nat} {pc : Nat} (h : CS w c T R pc) (ty : TypeId) (A : Option Addr) (n cp : Nat) (us : List Nat) (hn : us.length = n) (h16 : n ≤ 16) (hr : UR w A us) :
    ∃ w', (Builtin.copy_ #[23, 23] ty #[.slice (some ⟨c, 0, none⟩) 16 16, .slice A n cp]).run Try.prog w = .ok (goInt n) w' ∧ CS w' c T (Cor.fill us R) pc ∧ Turn [c] w w' := by
  by_cases h0 : n = 0
  · subst h0
    obtain rfl := List.eq_nil_of_length_eq_zero hn
    refine ⟨w, run_copy_none w _ _ ty 32 _ _ _ _ _ _ Try.underlying23 size64 (Nat.zero_min _), ?_, Turn.refl _ _⟩
    exact h
  · obtain ⟨sb, so, rfl, _, _⟩ := hr 0 (us.getD 0 0) (by rw [List.getD_eq_getElem?_getD, List.getElem?_eq_getElem (by omega)]; rfl)
    have hrun := run_copy_row (P := Try.prog) w 23 23 ty 32 c 0 16 16 ⟨sb, so, none⟩ n cp (rl R pc).toArray T (U us) Try.underlying23 size64 h (by rw [U_len, hn]; exact (Nat.min_eq_left h16).symm) (fun j v hv => by
      obtain ⟨x, hx, rfl⟩ := U_get hv
      obtain ⟨b', o', e, _, hc⟩ := hr j x hx
      injection e with e
      injection e with e1 e2
      subst e1 e2
      rw [addr_add]; exact hc) (by rw [U_len, hn]; show 0 + n ≤ 17; omega) (U_one us)
    rw [U_len, hn] at hrun
    refine ⟨_, hrun, ?_, ⟨rfl, rfl, rfl, by simp [World.setRow], fun k hk hn => setRow_other w c k _ (fun e => hn (by simp [e]))⟩⟩
    unfold CS
    have e : List.take 0 (rl R pc) ++ U us ++ List.drop (0 + n) (rl R pc) = rl (Cor.fill us R) pc := by
      rw [List.take_zero, List.nil_append, Nat.zero_add, ← hn]
      exact rl_fill us R pc (by omega)
    exact (setRow_heap w c _ _ _ _ h).trans (congrArg (fun l : List Value => some (Obj.cells l.toArray T)) e)
theorem wpList_copy_by {P : Program} {ops : Array Oper} {rest : List Oper} {o : Oper} {a : Act} {w : World} {Q : Exit → Act → World → Prop} (hgd : o.guard = none) (d s : Operand) (dT sT : TypeId)
    (ho : o.op = .call { callee := .builtin .copy, args := #[d, s], argTypes := #[dT, sT] }) (x y r : Value) (hd : a.eval d = x) (hs : a.eval s = y) (w' : World)
    (hrun : (Builtin.copy_ #[dT, sT] o.type #[x, y]).run P w = .ok r w') (h : wpList P ops Q rest (a.put o.dst r) w') : wpList P ops Q (o :: rest) a w := by
  refine wpList_plain hgd fun K hK => ?_
  unfold Oper.wp
  simp [execOp, ho, resolve, invoke, builtin, hd, hs, hrun, Result.andThen]
  exact hK _ _ h
theorem i64_and15 (n : Int) : bits .and .i64 n 15 = ((n % 16).toNat : Nat) := by
  have h127 : (BitVec.ofInt 64 15).toNat = 2 ^ 4 - 1 := by decide
  have key : (BitVec.ofInt 64 n &&& BitVec.ofInt 64 15).toNat = (n % ((2 ^ 64 : Nat) : Int)).toNat % 2 ^ 4 := by
    rw [BitVec.toNat_and, BitVec.toNat_ofInt, h127, Nat.and_two_pow_sub_one_eq_mod]
  show IntKind.i64.wrap ((BitVec.ofInt 64 n &&& BitVec.ofInt 64 15).toNat : Nat) = _
  rw [key, IntKind.wrap_i64]
  omega
end Go.Proofs.Ytojnokaeopadfaa
