/- What a step does, reckoned with numbers. -/
import Derived.Test.YtojnokaeopadfaaYc
import Derived.Test.YtojnokaeopadfaaEa
set_option linter.unusedVariables false
set_option linter.unusedSimpArgs false
namespace Cor
/-- A core, and the bytes that it reaches. -/
structure S where
  R : Nat → Nat
  pc : Nat
  f : Nat → Nat
def put (R : Nat → Nat) (k v : Nat) : Nat → Nat := fun i => if i = k then v else R i
def ext (m : Int) : Nat := (m % 18446744073709551616).toNat
def nxt (pc : Nat) : Nat := (pc + 8) % 18446744073709551616
def far (pc : Nat) (m : Int) : Nat := (pc + 8 * ext m % 18446744073709551616) % 18446744073709551616
/-- May bytes be reached? -/
def ok (n : Nat) (hole : Int) (va w : Nat) : Bool := decide (va + w ≤ n ∧ (hole = 0 ∨ (va : Int) < hole))
def ldf (f : Nat → Nat) (va : Nat) : Nat → Nat
  | 0 => 0
  | w + 1 => ldf f va w * 256 + f (va + w)
/-- The first i of w bytes of x are stored. -/
def sti (f : Nat → Nat) (va w x i : Nat) : Nat → Nat := fun j => if va ≤ j ∧ j < va + i then x / 2 ^ (8 * (w - 1 - (j - va))) % 256 else f j
def low (x w : Nat) : Nat := x % 2 ^ (8 * w)
structure Ok (s : S) : Prop where
  R : ∀ i, s.R i < 18446744073709551616
  pc : s.pc < 18446744073709551616
  f : ∀ i, s.f i < 256
/-- What an instruction does that reaches no memory. -/
def plain (op : Int) (a b c : Nat) (m : Int) (s : S) : S × Int :=
  if op = 1 then (s, 2)
  else if op = 43 then ({s with pc := nxt s.pc}, 1)
  else if op = 2 then ({s with R := put s.R a (ext m), pc := nxt s.pc}, 0)
  else if op = 3 then ({s with R := put s.R a (s.R a % 4294967296 + (m % 4294967296).toNat * 4294967296), pc := nxt s.pc}, 0)
  else if op = 18 then ({s with R := put s.R a ((s.R b + ext m) % 18446744073709551616), pc := nxt s.pc}, 0)
  else if op = 25 ∨ op = 26 ∨ op = 27 ∨ op = 28 then ({s with pc := if Alu.takes op (s.R a) (s.R b) = true then far s.pc m else nxt s.pc}, 0)
  else if op = 29 then ({s with R := put s.R a (nxt s.pc), pc := far s.pc m}, 0)
  else if op = 30 then ({s with pc := s.R a}, 0)
  else if (Alu.rk op (s.R b) (s.R c)).2 = true then ({s with R := put s.R a (Alu.rk op (s.R b) (s.R c)).1, pc := nxt s.pc}, 0) else (s, 5)
def isMove (op : Int) : Bool := decide (19 ≤ op ∧ op ≤ 24)
def wid (op : Int) : Nat := if op = 19 ∨ op = 22 then 8 else if op = 20 ∨ op = 23 then 4 else 1
/-- A load or a store. -/
def move (n : Nat) (hole : Int) (op : Int) (a b : Nat) (m : Int) (s : S) : S × Int :=
  if (Alu.place (s.R b) m (wid op)).2 = false then (s, 6)
  else if ok n hole (Alu.place (s.R b) m (wid op)).1.toNat (wid op) = false then (s, 3)
  else if 22 ≤ op then ({s with f := sti s.f (Alu.place (s.R b) m (wid op)).1.toNat (wid op) (low (s.R a) (wid op)) (wid op), pc := nxt s.pc}, 0)
  else ({s with R := put s.R a (ldf s.f (Alu.place (s.R b) m (wid op)).1.toNat (wid op)), pc := nxt s.pc}, 0)
def exec (n : Nat) (hole : Int) (op : Int) (a b c : Nat) (m : Int) (s : S) : S × Int := if isMove op = true then move n hole op a b m s else plain op a b c m s
def stp (n : Nat) (hole : Int) (s : S) : S × Int :=
  if 262144 ≤ s.pc ∨ s.pc % 8 ≠ 0 then (s, 6)
  else if ok n hole s.pc 8 = false then (s, 3)
  else if Isa.Right (s.f s.pc : Nat) (s.f (s.pc + 1) : Nat) (s.f (s.pc + 2) : Nat) (s.f (s.pc + 3) : Nat) then
    exec n hole (s.f s.pc : Nat) (s.f (s.pc + 1)) (s.f (s.pc + 2)) (s.f (s.pc + 3)) (Isa.im [s.f (s.pc + 4), s.f (s.pc + 5), s.f (s.pc + 6), s.f (s.pc + 7)]) s
  else (s, 4)

theorem put_same (R : Nat → Nat) (k v : Nat) : put R k v k = v := if_pos rfl
theorem put_ne (R : Nat → Nat) {k i : Nat} (v : Nat) (h : i ≠ k) : put R k v i = R i := if_neg h
theorem put_lt {R : Nat → Nat} (h : ∀ i, R i < 18446744073709551616) (k : Nat) {v : Nat} (hv : v < 18446744073709551616) : ∀ i, put R k v i < 18446744073709551616 := by
  intro i; unfold put; split
  · exact hv
  · exact h i
theorem ext_lt (m : Int) : ext m < 18446744073709551616 := by unfold ext; omega
theorem nxt_lt (pc : Nat) : nxt pc < 18446744073709551616 := by unfold nxt; omega
theorem far_lt (pc : Nat) (m : Int) : far pc m < 18446744073709551616 := by unfold far; omega
theorem ldf_lt {f : Nat → Nat} (h : ∀ i, f i < 256) (va : Nat) : ∀ w, ldf f va w < 256 ^ w
  | 0 => by simp [ldf]
  | w + 1 => by
    have h1 := ldf_lt h va w
    have h2 := h (va + w)
    have h3 : (ldf f va w + 1) * 256 ≤ 256 ^ w * 256 := Nat.mul_le_mul_right 256 h1
    rw [ldf, Nat.pow_succ]; omega
theorem sti_lt {f : Nat → Nat} (h : ∀ i, f i < 256) (va w x i : Nat) : ∀ j, sti f va w x i j < 256 := by
  intro j; unfold sti; split
  · omega
  · exact h j
theorem sti_zero (f : Nat → Nat) (va w x : Nat) : sti f va w x 0 = f := by
  funext j; unfold sti; rw [if_neg (by omega)]
theorem sti_next (f : Nat → Nat) (va w x i j : Nat) : sti f va w x (i + 1) j = if j = va + i then x / 2 ^ (8 * (w - 1 - i)) % 256 else sti f va w x i j := by
  unfold sti
  by_cases h : j = va + i
  · rw [if_pos (by omega), if_pos h, show j - va = i by omega]
  · rw [if_neg h]
    by_cases h2 : va ≤ j ∧ j < va + i
    · rw [if_pos (by omega), if_pos h2]
    · rw [if_neg (by omega), if_neg h2]
theorem iteP {α : Type} {P : α → Prop} {p : Prop} [Decidable p] {x y : α} (hx : P x) (hy : P y) : P (if p then x else y) := by split <;> assumption
theorem flo_lt (op : Int) (a b : Nat) (ha : a < 18446744073709551616) (hb : b < 18446744073709551616) : (Alu.flo op a b).1 < 18446744073709551616 := by
  have hm : (if Flo.rLess a b = true then (1 : Nat) else 0) < 18446744073709551616 := by split <;> decide
  have he : (if Flo.rEqual a b = true then (1 : Nat) else 0) < 18446744073709551616 := by split <;> decide
  have h1 : Flo.rMin a b < 18446744073709551616 := by
    unfold Flo.rMin; split
    · decide
    · split
      · exact hb
      · exact ha
  have h2 : Flo.rMax a b < 18446744073709551616 := by
    unfold Flo.rMax; split
    · decide
    · split
      · exact hb
      · exact ha
  have h3 : Go.FloatKind.f64.nearest (Alu.sg a) < 18446744073709551616 := Ieee.double.nearest_lt _ _ _
  have h4 : (Flo.fToInt a % 18446744073709551616).toNat < 18446744073709551616 := by omega
  unfold Alu.flo
  refine iteP (P := fun x : Nat × Bool => x.1 < 18446744073709551616) (Flo.res_add _ _).1 ?_
  refine iteP (P := fun x : Nat × Bool => x.1 < 18446744073709551616) (Flo.res_add _ _).1 ?_
  refine iteP (P := fun x : Nat × Bool => x.1 < 18446744073709551616) (Flo.res_mul _ _).1 ?_
  refine iteP (P := fun x : Nat × Bool => x.1 < 18446744073709551616) (Flo.res_div _ _).1 ?_
  refine iteP (P := fun x : Nat × Bool => x.1 < 18446744073709551616) h1 ?_
  refine iteP (P := fun x : Nat × Bool => x.1 < 18446744073709551616) h2 ?_
  refine iteP (P := fun x : Nat × Bool => x.1 < 18446744073709551616) hm ?_
  refine iteP (P := fun x : Nat × Bool => x.1 < 18446744073709551616) he ?_
  refine iteP (P := fun x : Nat × Bool => x.1 < 18446744073709551616) (Flo.res_sqrt _).1 ?_
  refine iteP (P := fun x : Nat × Bool => x.1 < 18446744073709551616) h4 ?_
  refine iteP (P := fun x : Nat × Bool => x.1 < 18446744073709551616) h3 ?_
  refine iteP (P := fun x : Nat × Bool => x.1 < 18446744073709551616) (Nat.mod_lt _ (by decide)) ?_
  show 0 < 18446744073709551616
  decide
theorem rk_lt (op : Int) (a b : Nat) (ha : a < 18446744073709551616) (hb : b < 18446744073709551616) : (Alu.rk op a b).1 < 18446744073709551616 := by
  have h1 : (if Alu.sg a < Alu.sg b then (1 : Nat) else 0) < 18446744073709551616 := by split <;> decide
  have h2 : (if a < b then (1 : Nat) else 0) < 18446744073709551616 := by split <;> decide
  have h3 : (if a = b then (1 : Nat) else 0) < 18446744073709551616 := by split <;> decide
  have z : (0 : Nat) < 18446744073709551616 := by decide
  unfold Alu.rk
  refine iteP (P := fun x : Nat × Bool => x.1 < 18446744073709551616) (Nat.mod_lt _ (by decide)) ?_
  refine iteP (P := fun x : Nat × Bool => x.1 < 18446744073709551616) (Nat.mod_lt _ (by decide)) ?_
  refine iteP (P := fun x : Nat × Bool => x.1 < 18446744073709551616) (Nat.mod_lt _ (by decide)) ?_
  refine iteP (P := fun x : Nat × Bool => x.1 < 18446744073709551616) (iteP (P := fun x : Nat × Bool => x.1 < 18446744073709551616) z (Alu.quo_lt _ _ ha)) ?_
  refine iteP (P := fun x : Nat × Bool => x.1 < 18446744073709551616) (iteP (P := fun x : Nat × Bool => x.1 < 18446744073709551616) z (Alu.rem_lt _ _ ha)) ?_
  refine iteP (P := fun x : Nat × Bool => x.1 < 18446744073709551616) (Alu.and_lt _ _ ha) ?_
  refine iteP (P := fun x : Nat × Bool => x.1 < 18446744073709551616) (Alu.or_lt _ _ ha hb) ?_
  refine iteP (P := fun x : Nat × Bool => x.1 < 18446744073709551616) (Alu.xor_lt _ _ ha hb) ?_
  refine iteP (P := fun x : Nat × Bool => x.1 < 18446744073709551616) (Alu.shl_lt _ _) ?_
  refine iteP (P := fun x : Nat × Bool => x.1 < 18446744073709551616) (Alu.shr_lt _ _ ha) ?_
  refine iteP (P := fun x : Nat × Bool => x.1 < 18446744073709551616) (Alu.sar_lt _ _ ha) ?_
  refine iteP (P := fun x : Nat × Bool => x.1 < 18446744073709551616) h1 ?_
  refine iteP (P := fun x : Nat × Bool => x.1 < 18446744073709551616) h2 ?_
  refine iteP (P := fun x : Nat × Bool => x.1 < 18446744073709551616) h3 ?_
  exact flo_lt _ _ _ ha hb
theorem plain_ok (op : Int) (a b c : Nat) (m : Int) (s : S) (h : Ok s) : Ok (plain op a b c m s).1 := by
  unfold plain
  repeat' split
  all_goals first
    | exact h
    | exact ⟨h.R, nxt_lt _, h.f⟩
    | exact ⟨put_lt h.R a (ext_lt m), nxt_lt _, h.f⟩
    | exact ⟨put_lt h.R a (by omega), nxt_lt _, h.f⟩
    | exact ⟨h.R, far_lt _ _, h.f⟩
    | exact ⟨put_lt h.R a (nxt_lt _), far_lt _ _, h.f⟩
    | exact ⟨h.R, h.R a, h.f⟩
    | exact ⟨put_lt h.R a (rk_lt op _ _ (h.R b) (h.R c)), nxt_lt _, h.f⟩
theorem wid_cases (op : Int) : wid op = 8 ∨ wid op = 4 ∨ wid op = 1 := by unfold wid; split; · simp
                                                                          · split <;> simp
theorem move_ok (n : Nat) (hole : Int) (op : Int) (a b : Nat) (m : Int) (s : S) (h : Ok s) : Ok (move n hole op a b m s).1 := by
  unfold move
  split
  · exact h
  split
  · exact h
  split
  · exact ⟨h.R, nxt_lt _, sti_lt h.f _ _ _ _⟩
  · refine ⟨put_lt h.R a ?_, nxt_lt _, h.f⟩
    have h1 := ldf_lt h.f (Alu.place (s.R b) m (wid op)).1.toNat (wid op)
    have h2 : 256 ^ wid op ≤ 256 ^ 8 := Nat.pow_le_pow_right (by decide) (by rcases wid_cases op with e | e | e <;> omega)
    have h3 : (256 : Nat) ^ 8 = 18446744073709551616 := by decide
    omega
theorem stp_ok (n : Nat) (hole : Int) (s : S) (h : Ok s) : Ok (stp n hole s).1 := by
  unfold stp
  split
  · exact h
  split
  · exact h
  split
  · unfold exec
    split
    · exact move_ok _ _ _ _ _ _ _ h
    · exact plain_ok _ _ _ _ _ _ h
  · exact h
/-- What ends badly changes nothing. -/
theorem plain_bad (op : Int) (a b c : Nat) (m : Int) (s : S) : 1 < (plain op a b c m s).2 → (plain op a b c m s).1 = s := by
  have z : ∀ (s' : S), 1 < ((s', (0 : Int)).2) → (s', (0 : Int)).1 = s := fun s' h => absurd (show (1 : Int) < 0 from h) (by decide)
  unfold plain
  refine iteP (P := fun x : S × Int => 1 < x.2 → x.1 = s) (fun _ => rfl) ?_
  refine iteP (P := fun x : S × Int => 1 < x.2 → x.1 = s) (fun h => absurd (show (1 : Int) < 1 from h) (by decide)) ?_
  refine iteP (P := fun x : S × Int => 1 < x.2 → x.1 = s) (z _) ?_
  refine iteP (P := fun x : S × Int => 1 < x.2 → x.1 = s) (z _) ?_
  refine iteP (P := fun x : S × Int => 1 < x.2 → x.1 = s) (z _) ?_
  refine iteP (P := fun x : S × Int => 1 < x.2 → x.1 = s) (z _) ?_
  refine iteP (P := fun x : S × Int => 1 < x.2 → x.1 = s) (z _) ?_
  refine iteP (P := fun x : S × Int => 1 < x.2 → x.1 = s) (z _) ?_
  exact iteP (P := fun x : S × Int => 1 < x.2 → x.1 = s) (z _) (fun _ => rfl)
theorem move_bad (n : Nat) (hole : Int) (op : Int) (a b : Nat) (m : Int) (s : S) : 1 < (move n hole op a b m s).2 → (move n hole op a b m s).1 = s := by
  have z : ∀ (s' : S), 1 < ((s', (0 : Int)).2) → (s', (0 : Int)).1 = s := fun s' h => absurd (show (1 : Int) < 0 from h) (by decide)
  unfold move
  refine iteP (P := fun x : S × Int => 1 < x.2 → x.1 = s) (fun _ => rfl) ?_
  refine iteP (P := fun x : S × Int => 1 < x.2 → x.1 = s) (fun _ => rfl) ?_
  exact iteP (P := fun x : S × Int => 1 < x.2 → x.1 = s) (z _) (z _)
theorem stp_bad (n : Nat) (hole : Int) (s : S) : 1 < (stp n hole s).2 → (stp n hole s).1 = s := by
  unfold stp
  refine iteP (P := fun x : S × Int => 1 < x.2 → x.1 = s) (fun _ => rfl) ?_
  refine iteP (P := fun x : S × Int => 1 < x.2 → x.1 = s) (fun _ => rfl) ?_
  refine iteP (P := fun x : S × Int => 1 < x.2 → x.1 = s) ?_ (fun _ => rfl)
  unfold exec
  exact iteP (P := fun x : S × Int => 1 < x.2 → x.1 = s) (move_bad _ _ _ _ _ _ _) (plain_bad _ _ _ _ _ _)
end Cor
