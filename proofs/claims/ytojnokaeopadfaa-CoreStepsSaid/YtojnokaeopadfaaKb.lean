/- Cores that are held against one another. -/
import Derived.Test.YtojnokaeopadfaaHb
import Derived.DeepKeys
import Derived.Deep.MidRow
set_option linter.unusedVariables false
set_option linter.unusedSimpArgs false
namespace Go.Proofs.Ytojnokaeopadfaa
open Go.RowKit

theorem wf_nat (x : Nat) (h : x < 18446744073709551616) : (Lit.int .u64 (x : Nat)).wf = true := by
  simp [Lit.wf, IntKind.min, IntKind.max, IntKind.bits, IntKind.signed]
  omega
theorem mapM_ex {α β : Type} (f : α → Option β) : ∀ l : List α, (∀ x ∈ l, ∃ y, f x = some y) → ∃ ys, l.mapM f = some ys
  | [], _ => ⟨[], rfl⟩
  | a :: l, h => by
    obtain ⟨y, hy⟩ := h a (by simp)
    obtain ⟨ys, hys⟩ := mapM_ex f l (fun x hx => h x (by simp [hx]))
    exact ⟨y :: ys, by rw [List.mapM_cons, hy, hys]; rfl⟩
theorem kl_u64 (d x : Nat) (h : x < 18446744073709551616) : Try.prog.keyLits (d + 1) 32 [.int .u64 (x : Nat)] = some [.int .u64 (x : Nat)] := by
  unfold Program.keyLits
  rw [Try.underlying32]
  simp only [wf_nat x h, and_self, if_true]
/-- The sixteen numbers. -/
def al (R : Nat → Nat) : List Value := (rl R 0).take 16
theorem al_at (R : Nat → Nat) {k : Nat} (hk : k < 16) : (al R)[k]? = some (.int .u64 (R k : Nat)) := by
  unfold al
  rw [List.getElem?_take, if_pos hk, rl_at R 0 hk]
theorem one_at {l : List Value} {k : Nat} {v : Value} (h : l[k]? = some v) : (l.drop k).take 1 = [v] := by
  obtain ⟨hk, e⟩ := List.getElem?_eq_some_iff.1 h
  rw [List.drop_eq_getElem_cons hk, e]
  simp
theorem cells32 : Try.prog.cellsOf 32 = 1 := by kernel_rfl
theorem cells33 : Try.prog.cellsOf 33 = 16 := by kernel_rfl
theorem kl_arr (d : Nat) (R : Nat → Nat) (h : ∀ i, R i < 18446744073709551616) : ∃ l, Try.prog.keyLits (d + 2) 33 (al R) = some l := by
  unfold Program.keyLits
  rw [Try.underlying33]
  dsimp only
  rw [cells33, cells32, if_pos (by rfl)]
  obtain ⟨ys, hy⟩ := mapM_ex (fun i => Try.prog.keyLits (d + 1) 32 (((al R).drop (i * 1)).take 1)) (List.range 16) (fun i hi => by
    rw [Nat.mul_one, one_at (al_at R (List.mem_range.1 hi))]
    exact ⟨_, kl_u64 d _ (h i)⟩)
  rw [hy]
  exact ⟨_, rfl⟩
theorem kt_arr : Try.prog.keyTypeAt 4 33 = true := by kernel_rfl
theorem neq_arr (R : Nat → Nat) (h : ∀ i, R i < 18446744073709551616) (w : World) : (binOp .neq 33 (.agg (al R).toArray) (.agg (al R).toArray)).run Try.prog w = .ok (.bool false) w := by
  obtain ⟨l, hl⟩ := kl_arr 0 R h
  have hf : (Value.agg (al R).toArray).formed Try.prog 33 = true := by unfold Value.formed; rw [Try.underlying33, cells33]; rfl
  have hr : ∀ d, (Op.equalIn (d + 4) 33 (.agg (al R).toArray) (.agg (al R).toArray)).run Try.prog w = .ok true w := fun d => by
    obtain ⟨r, h1, h2⟩ := run_equalIn_deep d 4 33 kt_arr w 2 2 _ _ l l hf hf hl hl
    rw [h1, h2.2 rfl]
  simp only [binOp]
  simp [Op.equal, Op.maxDepth, hr 9996]
theorem equal_arr (R : Nat → Nat) (h : ∀ i, R i < 18446744073709551616) (w : World) (d : Nat) : (Op.equalIn (d + 4) 33 (.agg #[.int .u64 (R 0 : Nat), .int .u64 (R 1 : Nat), .int .u64 (R 2 : Nat), .int .u64 (R 3 : Nat), .int .u64 (R 4 : Nat), .int .u64 (R 5 : Nat), .int .u64 (R 6 : Nat), .int .u64 (R 7 : Nat), .int .u64 (R 8 : Nat), .int .u64 (R 9 : Nat), .int .u64 (R 10 : Nat), .int .u64 (R 11 : Nat), .int .u64 (R 12 : Nat), .int .u64 (R 13 : Nat), .int .u64 (R 14 : Nat), .int .u64 (R 15 : Nat)]) (.agg #[.int .u64 (R 0 : Nat), .int .u64 (R 1 : Nat), .int .u64 (R 2 : Nat), .int .u64 (R 3 : Nat), .int .u64 (R 4 : Nat), .int .u64 (R 5 : Nat), .int .u64 (R 6 : Nat), .int .u64 (R 7 : Nat), .int .u64 (R 8 : Nat), .int .u64 (R 9 : Nat), .int .u64 (R 10 : Nat), .int .u64 (R 11 : Nat), .int .u64 (R 12 : Nat), .int .u64 (R 13 : Nat), .int .u64 (R 14 : Nat), .int .u64 (R 15 : Nat)])).run Try.prog w = .ok true w := by
  obtain ⟨l, hl⟩ := kl_arr 0 R h
  have hf : (Value.agg (al R).toArray).formed Try.prog 33 = true := by unfold Value.formed; rw [Try.underlying33, cells33]; rfl
  obtain ⟨r, h1, h2⟩ := run_equalIn_deep d 4 33 kt_arr w 2 2 _ _ l l hf hf hl hl
  have h3 : (Op.equalIn (d + 4) 33 (.agg (al R).toArray) (.agg (al R).toArray)).run Try.prog w = .ok true w := by rw [h1, h2.2 rfl]
  exact h3
theorem rl_al (R : Nat → Nat) (pc : Nat) : ((rl R pc).drop 0).take 16 = al R := rfl
theorem rl_pc (R : Nat → Nat) (pc : Nat) : ((rl R pc).drop 16).take 1 = [.int .u64 (pc : Nat)] := rfl
theorem cells35 : Try.prog.cellsOf 35 = 17 := by kernel_rfl
theorem kl_core (d : Nat) (R : Nat → Nat) (pc : Nat) (h : ∀ i, R i < 18446744073709551616) (hp : pc < 18446744073709551616) : ∃ l, Try.prog.keyLits (d + 3) 35 (rl R pc) = some l := by
  unfold Program.keyLits
  rw [Try.underlying35]
  dsimp only
  rw [cells35, if_pos ⟨rfl, by kernel_rfl⟩]
  obtain ⟨l0, h0⟩ := kl_arr d R h
  have h1 := kl_u64 (d + 1) pc hp
  simp only [List.mapM_cons, List.mapM_nil, cells33, cells32, rl_al, rl_pc, h0, h1]
  exact ⟨_, rfl⟩
theorem kt_core : Try.prog.keyTypeAt 5 35 = true := by kernel_rfl
theorem eq_core (R : Nat → Nat) (pc : Nat) (h : ∀ i, R i < 18446744073709551616) (hp : pc < 18446744073709551616) (w : World) : (binOp .eql 35 (.agg (rl R pc).toArray) (.agg (rl R pc).toArray)).run Try.prog w = .ok (.bool true) w := by
  obtain ⟨l, hl⟩ := kl_core 0 R pc h hp
  have hf : (Value.agg (rl R pc).toArray).formed Try.prog 35 = true := by unfold Value.formed; rw [Try.underlying35, cells35]; rfl
  have hr : ∀ d, (Op.equalIn (d + 5) 35 (.agg (rl R pc).toArray) (.agg (rl R pc).toArray)).run Try.prog w = .ok true w := fun d => by
    obtain ⟨r, h1, h2⟩ := run_equalIn_deep d 5 35 kt_core w 3 3 _ _ l l hf hf hl hl
    rw [h1, h2.2 rfl]
  simp only [binOp]
  simp [Op.equal, Op.maxDepth, hr 9995]
theorem CS.range {w : World} {c : Nat} {T : TypeId} {R : Nat → Nat} {pc : Nat} (h : CS w c T R pc) : w.rangeAt c 0 (rl R pc) := fun j v hj => by
  rw [Nat.zero_add, cell_of_row _ _ _ _ T (0, 0) h, List.getElem?_toArray]; exact hj
theorem size35 : (Try.prog.info? 35).map (·.size) = some 17 := by kernel_rfl
theorem CS.all {w : World} {c : Nat} {T : TypeId} {R : Nat → Nat} {pc : Nat} (h : CS w c T R pc) : w.cell? ⟨c, 0, none⟩ = some (.int .u64 (R 0 : Nat)) ∧ w.cell? ⟨c, 1, none⟩ = some (.int .u64 (R 1 : Nat)) ∧ w.cell? ⟨c, 2, none⟩ = some (.int .u64 (R 2 : Nat)) ∧ w.cell? ⟨c, 3, none⟩ = some (.int .u64 (R 3 : Nat)) ∧ w.cell? ⟨c, 4, none⟩ = some (.int .u64 (R 4 : Nat)) ∧ w.cell? ⟨c, 5, none⟩ = some (.int .u64 (R 5 : Nat)) ∧ w.cell? ⟨c, 6, none⟩ = some (.int .u64 (R 6 : Nat)) ∧ w.cell? ⟨c, 7, none⟩ = some (.int .u64 (R 7 : Nat)) ∧ w.cell? ⟨c, 8, none⟩ = some (.int .u64 (R 8 : Nat)) ∧ w.cell? ⟨c, 9, none⟩ = some (.int .u64 (R 9 : Nat)) ∧ w.cell? ⟨c, 10, none⟩ = some (.int .u64 (R 10 : Nat)) ∧ w.cell? ⟨c, 11, none⟩ = some (.int .u64 (R 11 : Nat)) ∧ w.cell? ⟨c, 12, none⟩ = some (.int .u64 (R 12 : Nat)) ∧ w.cell? ⟨c, 13, none⟩ = some (.int .u64 (R 13 : Nat)) ∧ w.cell? ⟨c, 14, none⟩ = some (.int .u64 (R 14 : Nat)) ∧ w.cell? ⟨c, 15, none⟩ = some (.int .u64 (R 15 : Nat)) ∧ w.cell? ⟨c, 16, none⟩ = some (.int .u64 (pc : Nat)) :=
  ⟨h.cell (by decide), h.cell (by decide), h.cell (by decide), h.cell (by decide), h.cell (by decide), h.cell (by decide), h.cell (by decide), h.cell (by decide), h.cell (by decide), h.cell (by decide), h.cell (by decide), h.cell (by decide), h.cell (by decide), h.cell (by decide), h.cell (by decide), h.cell (by decide), h.next⟩
theorem eq_core_lit (R : Nat → Nat) (pc : Nat) (h : ∀ i, R i < 18446744073709551616) (hp : pc < 18446744073709551616) (w : World) : (binOp .eql 35 (.agg #[.int .u64 (R 0 : Nat), .int .u64 (R 1 : Nat), .int .u64 (R 2 : Nat), .int .u64 (R 3 : Nat), .int .u64 (R 4 : Nat), .int .u64 (R 5 : Nat), .int .u64 (R 6 : Nat), .int .u64 (R 7 : Nat), .int .u64 (R 8 : Nat), .int .u64 (R 9 : Nat), .int .u64 (R 10 : Nat), .int .u64 (R 11 : Nat), .int .u64 (R 12 : Nat), .int .u64 (R 13 : Nat), .int .u64 (R 14 : Nat), .int .u64 (R 15 : Nat), .int .u64 (pc : Nat)]) (.agg #[.int .u64 (R 0 : Nat), .int .u64 (R 1 : Nat), .int .u64 (R 2 : Nat), .int .u64 (R 3 : Nat), .int .u64 (R 4 : Nat), .int .u64 (R 5 : Nat), .int .u64 (R 6 : Nat), .int .u64 (R 7 : Nat), .int .u64 (R 8 : Nat), .int .u64 (R 9 : Nat), .int .u64 (R 10 : Nat), .int .u64 (R 11 : Nat), .int .u64 (R 12 : Nat), .int .u64 (R 13 : Nat), .int .u64 (R 14 : Nat), .int .u64 (R 15 : Nat), .int .u64 (pc : Nat)])).run Try.prog w = .ok (.bool true) w := eq_core R pc h hp w
end Go.Proofs.Ytojnokaeopadfaa
