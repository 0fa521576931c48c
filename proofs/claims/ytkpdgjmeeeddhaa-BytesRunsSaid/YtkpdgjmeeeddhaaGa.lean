/- Bytes in memory; what a call of a pool's turns. Written out of pack's texts. -/
import Derived.Test.YtkpdgjmeeeddhaaRows
import Derived.WalkKit
import Derived.Lib.Walk
import Derived.Lib.Hide
import Derived.BigCall
import Derived.BigGuard
import Derived.IntWalk
import Derived.Laws.Rows
import Derived.Laws.MakeOwn
import Derived.Laws.CopyOwn
import Derived.Laws.BytesArg
import Derived.Laws.AppendOwn
import Derived.Below
import Derived.WideShapes
import Derived.Deep.LoopGhost
import Derived.Deep.DeepCutAuto
import Derived.Deep.CutBlock
import Derived.Deep.QuietTactic
import Derived.Deep.RegionHeld3
import Derived.Lib.QuietBelow
import Derived.Lib.MinMax
namespace Go.Proofs.Ytkpdgjmeeeddhaa
open Go.RowKit
set_option linter.unusedVariables false
set_option linter.unusedSimpArgs false

theorem addr_add (b off j : Nat) : (⟨b, off, none⟩ : Addr).add j = ⟨b, off + j, none⟩ := by
  unfold Addr.add; split <;> simp_all
theorem info5 : (Try.prog.info? 5).map (fun i => (i.zero, i.size, i.bytes)) = some (some (.int .u8 0), 1, 1) := by kernel_rfl
/-- Bytes, as cells. -/
def Y (bs : List Nat) : List Value := bs.map (fun (c : Nat) => Value.int .u8 (c : Int))
theorem Y_len (bs : List Nat) : (Y bs).length = bs.length := by simp [Y]
theorem Y_app (ds bs : List Nat) : Y (ds ++ bs) = Y ds ++ Y bs := by simp [Y]
theorem Y_get {bs : List Nat} {i : Nat} {u : Value} (h : (Y bs)[i]? = some u) : ∃ x : Nat, bs[i]? = some x ∧ u = .int .u8 (x : Int) := by
  unfold Y at h
  rw [List.getElem?_map] at h
  cases hb : bs[i]? with
  | none => rw [hb] at h; cases h
  | some x => rw [hb] at h; exact ⟨x, rfl, by simpa using h.symm⟩
theorem Y_at {bs : List Nat} {i x : Nat} (h : bs[i]? = some x) : (Y bs)[i]? = some (.int .u8 (x : Int)) := by
  unfold Y; rw [List.getElem?_map, h]; rfl
theorem Y_one (bs : List Nat) : ∀ u ∈ Y bs, u.oneCell' = true := by
  intro u hu
  obtain ⟨j, hj⟩ := List.mem_iff_getElem?.1 hu
  obtain ⟨x, _, rfl⟩ := Y_get hj
  rfl
/-- Bytes that are read at A. -/
def BR (w : World) (A : Option Addr) (bs : List Nat) : Prop := ∀ (i x : Nat), bs[i]? = some x → ∃ b off, A = some ⟨b, off, none⟩ ∧ b < w.heap.size ∧ w.cell? ⟨b, off + i, none⟩ = some (.int .u8 (x : Int))
theorem BR.nil (w : World) (A : Option Addr) : BR w A [] := fun i x h => by simp at h
theorem BR.below {w w' : World} {A : Option Addr} {bs : List Nat} (h : BR w A bs) (hb : Below w.heap.size w w') : BR w' A bs := fun i x hi => by
  obtain ⟨b, off, h1, h2, h3⟩ := h i x hi
  exact ⟨b, off, h1, Nat.lt_of_lt_of_le h2 hb.size, by rw [hb.cell (p := ⟨b, _, none⟩) h2]; exact h3⟩
/-- Bytes in a block of bytes. -/
def YR (w : World) (A : Option Addr) (bs : List Nat) : Prop := ∀ (i x : Nat), bs[i]? = some x → ∃ b off cs, A = some ⟨b, off, none⟩ ∧ w.heap[b]? = some (Obj.cells cs 5) ∧ cs[off + i]? = some (.int .u8 (x : Int))
theorem YR.br {w : World} {A : Option Addr} {bs : List Nat} (h : YR w A bs) : BR w A bs := fun i x hi => by
  obtain ⟨b, off, cs, h1, h2, h3⟩ := h i x hi
  exact ⟨b, off, h1, (Array.getElem?_eq_some_iff.1 h2).1, by rw [cell_of_row _ _ _ _ 5 (0, 0) h2]; exact h3⟩
theorem YR.kept {w w' : World} {A : Option Addr} {bs : List Nat} (h : YR w A bs) (hk : ∀ (b : Nat) (cs : Array Value), w.heap[b]? = some (Obj.cells cs 5) → w'.heap[b]? = some (Obj.cells cs 5)) : YR w' A bs := fun i x hi => by
  obtain ⟨b, off, cs, h1, h2, h3⟩ := h i x hi
  exact ⟨b, off, cs, h1, hk b cs h2, h3⟩
theorem YR.take {w : World} {A : Option Addr} {bs : List Nat} (h : YR w A bs) (k : Nat) : YR w A (bs.take k) := fun i x hi => by
  rw [List.getElem?_take] at hi
  split at hi
  · exact h i x hi
  · cases hi
theorem YR.drop {w : World} {A : Option Addr} {bs : List Nat} (h : YR w A bs) {k c : Nat} (hc : bs.length ≤ c) : YR w (if c = k then A else A.map (·.add k)) (bs.drop k) := fun i x hi => by
  rw [List.getElem?_drop] at hi
  have hl := (List.getElem?_eq_some_iff.1 hi).1
  rw [if_neg (by omega)]
  obtain ⟨b, off, cs, rfl, h2, h3⟩ := h _ x hi
  exact ⟨b, off + k, cs, by rw [Option.map_some, addr_add], h2, by rw [← h3]; congr 1; omega⟩
theorem size5 : (Try.prog.info? 5).map (·.size) = some 1 := by kernel_rfl
theorem run_bytes (w : World) (N : Nat) (h : N ≤ 1000100) : (Instr.makeSlice 30 (.int .i64 (N : Int)) (.int .i64 (N : Int))).run Try.prog w = .ok (.slice (some ⟨w.heap.size, 0, none⟩) N N) (w.alloc (Obj.cells (Y (List.replicate N 0)).toArray 5)) := by
  obtain ⟨i0, hi, hz0, hz1, hz2⟩ := info_parts info5
  have := run_make (P := Try.prog) w 30 5 i0 (.int .u8 0) Try.underlying30 hi hz0 .i64 .i64 N N (by omega) (Int.le_refl _) (by rw [hz2]; omega) (by omega)
  rw [this, hz1]
  have e : madeCells (Value.int .u8 0).cells (N * 1) = (Y (List.replicate N 0)).toArray := by
    apply Array.toList_inj.1
    show (madeCells #[Value.int .u8 0] (N * 1)).toList = _
    rw [toList_madeCells_one, Nat.mul_one]
    simp [Y]
  simp only [Int.toNat_natCast]
  rw [e]
/-- Bytes as a string. -/
def Str (bs : List Nat) : ByteArray := strOfNums (bs.map fun (x : Nat) => (x : Int))
theorem str_inj : ∀ {cs bs : List Nat}, (∀ x ∈ cs, x < 256) → (∀ x ∈ bs, x < 256) → Str cs = Str bs → cs = bs := by
  intro cs bs h1 h2 h
  have e : (Str cs).data.toList = (Str bs).data.toList := by rw [h]
  unfold Str at e
  rw [strOfNums_data, strOfNums_data, List.map_map, List.map_map] at e
  clear h
  induction cs generalizing bs with
  | nil =>
    cases bs with
    | nil => rfl
    | cons y r => simp at e
  | cons x r ih =>
    cases bs with
    | nil => simp at e
    | cons y s =>
      simp only [List.map_cons, List.cons.injEq, Function.comp] at e
      have hx := h1 x (by simp)
      have hy := h2 y (by simp)
      have e1 : x = y := by
        have := congrArg UInt8.toNat e.1
        simp at this
        omega
      rw [e1, ih (fun z hz => h1 z (by simp [hz])) (fun z hz => h2 z (by simp [hz])) e.2]
theorem conv_bytes (w : World) (A : Option Addr) (n c : Nat) (bs : List Nat) (hn : bs.length = n) (hr : BR w A bs) : (convert 30 9 (.slice A n c)).run Try.prog w = .ok (.string (Str bs)) w := by
  subst hn
  cases bs with
  | nil =>
    rw [run_convert_bytes_string w 30 9 5 _ _ c Try.underlying30 Try.underlying5 Try.underlying9]
    cases A <;> simp [Conv.bytesToString, loadCells]
    all_goals rfl
  | cons x r =>
    obtain ⟨b, off, rfl, hb, _⟩ := hr 0 x rfl
    refine run_convert_bytes_arg w 30 5 Try.underlying30 Try.underlying5 b off _ c _ (by simp) (fun i hi => ?_) 9 Try.underlying9
    obtain ⟨b', off', e, _, hc⟩ := hr i ((x :: r)[i]) (List.getElem?_eq_getElem hi)
    injection e with e
    injection e with e1 e2
    subst e1 e2
    rw [hc]
    congr 2
    rw [List.getD_eq_getElem?_getD, List.getElem?_map, List.getElem?_eq_getElem hi]
    rfl

theorem below_alloc1 (w : World) (o : Obj) : Below w.heap.size w (w.alloc o) := (Below.refl _ _).alloc (Nat.le_refl _) _
def zs (n : Nat) : List Nat := List.replicate n 0
theorem br_made (w : World) (bs : List Nat) : BR (w.alloc (Obj.cells (Y bs).toArray 5)) (some ⟨w.heap.size, 0, none⟩) bs := fun i x hi => by
  refine ⟨_, _, rfl, by simp, ?_⟩
  rw [cell_of_row _ _ _ _ 5 (0, 0) (heap_alloc_new w _)]
  rw [Nat.zero_add, List.getElem?_toArray]
  exact Y_at hi
/-- Only what is listed has turned, and what is new. -/
structure Turn (S : List Nat) (w w' : World) : Prop where
  os : w'.os = w.os
  tape : w'.tape = w.tape
  output : w'.output = w.output
  size : w.heap.size ≤ w'.heap.size
  block : ∀ k, k < w.heap.size → k ∉ S → w'.heap[k]? = w.heap[k]?
theorem Turn.refl (S : List Nat) (w : World) : Turn S w w := ⟨rfl, rfl, rfl, Nat.le_refl _, fun _ _ _ => rfl⟩
theorem Turn.of_below {S : List Nat} {w w' : World} (h : Below w.heap.size w w') : Turn S w w' := ⟨h.os, h.tape, h.output, h.size, fun k hk _ => h.block k hk⟩
theorem Turn.below {S : List Nat} {w w' : World} (h : Turn S w w') {X : Nat} (hX : X ≤ w.heap.size) (hS : ∀ b ∈ S, X ≤ b) : Below X w w' :=
  ⟨h.os, h.tape, h.output, h.size, fun k hk => h.block k (by omega) fun hm => by have := hS k hm; omega⟩
theorem Turn.trans {S S' : List Nat} {a b c : World} (h : Turn S a b) (k : Turn S' b c) (hs : ∀ x ∈ S', x ∈ S ∨ a.heap.size ≤ x) : Turn S a c :=
  ⟨k.os.trans h.os, k.tape.trans h.tape, k.output.trans h.output, Nat.le_trans h.size k.size, fun i hi hn =>
    (k.block i (Nat.lt_of_lt_of_le hi h.size) fun hm => by rcases hs i hm with h | h; exact hn h; omega).trans (h.block i hi hn)⟩
end Go.Proofs.Ytkpdgjmeeeddhaa
