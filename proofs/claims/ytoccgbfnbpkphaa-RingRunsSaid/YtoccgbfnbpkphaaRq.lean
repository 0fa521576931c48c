/- RingRuns: the law's state. -/
import Derived.Test.YtoccgbfnbpkphaaRr
import Derived.Test.YtoccgbfnbpkphaaTb
set_option linter.unusedVariables false
set_option linter.unusedSimpArgs false
namespace Go.Proofs.Ytoccgbfnbpkphaa
open Go.RowKit Rn
set_option linter.unusedVariables false
set_option linter.unusedSimpArgs false
def encS (p : List Nat) : Value := .string (Str p)
def encU (x : Nat) : Value := .int .u64 (x : Int)
/-- The ring, the law's own lists, its result and the variable l. -/
structure QS (W : World) (BT BL R : Nat) (T : List Nat) (ps : List (List Nat)) (lo : Nat) (us : List Nat) (ls : List (List Nat)) (os : List Nat) (vl vo : Value) (w : World) : Prop where
  rs : RS W T R ps lo us w
  up : ∀ b ∈ T, W.heap.size ≤ b
  bt : BT ∈ T
  bl : BL ∈ T
  ct : w.heap[BT]? = some (Obj.cells #[.bool false] 4)
  cl : w.heap[BL]? = some (Obj.cells #[vl] 31)
  l : SV 9 encS w T vl ls
  o : SV 33 encU w T vo os
variable {W w w' : World} {BT BL R : Nat} {T T' : List Nat} {ps ps' : List (List Nat)} {lo lo' : Nat} {us us' : List Nat} {ls ls' : List (List Nat)} {os os' : List Nat} {vl vo v' : Value}
theorem QS.call (h : QS W BT BL R T ps lo us ls os vl vo w) (hr : RS W T R ps' lo' us' w') (hs : Same T w w') : QS W BT BL R T ps' lo' us' ls os vl vo w' :=
  ⟨hr, h.up, h.bt, h.bl, (hs _ h.bt).trans h.ct, (hs _ h.bl).trans h.cl, h.l.keep (fun _ hb => hb) fun g _ hg _ => hs g hg, h.o.keep (fun _ hb => hb) fun g _ hg _ => hs g hg⟩
/-- More blocks are the law's. -/
theorem QS.wide (h : QS W BT BL R T ps lo us ls os vl vo w) (hr : RS W T' R ps' lo' us' w') (hT : ∀ b ∈ T, b ∈ T') (hU : ∀ b ∈ T', W.heap.size ≤ b) (hs : Same T w w') : QS W BT BL R T' ps' lo' us' ls os vl vo w' :=
  ⟨hr, hU, hT _ h.bt, hT _ h.bl, (hs _ h.bt).trans h.ct, (hs _ h.bl).trans h.cl, h.l.keep hT fun g _ hg _ => hs g hg, h.o.keep hT fun g _ hg _ => hs g hg⟩
theorem QS.alloc (h : QS W BT BL R T ps lo us ls os vl vo w) (o : Obj) : QS W BT BL R (w.heap.size :: T) ps lo us ls os vl vo (w.alloc o) :=
  h.wide (h.rs.alloc o) (fun b hb => List.mem_cons_of_mem _ hb) (fun b hb => by
    rcases List.mem_cons.1 hb with rfl | hb
    · exact h.rs.b.size
    · exact h.up b hb) (h.rs.same (below_alloc1 w o))
theorem QS.below (h : QS W BT BL R T ps lo us ls os vl vo w) (hb : Below w.heap.size w w') : QS W BT BL R T ps lo us ls os vl vo w' := h.call (h.rs.below hb) (h.rs.same hb)
theorem RS.app (h : RS W T R ps lo us w) {S : List Nat} (hU : ∀ b ∈ T, W.heap.size ≤ b) (ht : Turn S w w') (hS : ∀ b ∈ S, b ∈ T) (hT : ∀ b ∈ T', (b ∈ T ∨ w.heap.size ≤ b) ∧ (b ∈ T ∨ b < w'.heap.size)) : RS W T' R ps lo us w' :=
  h.keep (h.b.trans (ht.below h.b.size fun b hb => hU b (hS b hb))) (fun b hl _ hn => ht.block b hl fun hm => hn (hS b hm)) fun b hb => ⟨(hT b hb).1, by
    rcases (hT b hb).2 with e | e
    · exact Nat.lt_of_lt_of_le (h.t b e) ht.size
    · exact e⟩
theorem up_app (h : RS W T R ps lo us w) (hU : ∀ b ∈ T, W.heap.size ≤ b) (hT : ∀ b ∈ T', (b ∈ T ∨ w.heap.size ≤ b) ∧ (b ∈ T ∨ b < w'.heap.size)) : ∀ b ∈ T', W.heap.size ≤ b := fun b hb => by
  rcases (hT b hb).1 with e | e
  · exact hU b e
  · exact Nat.le_trans h.b.size e
/-- What the law has beside the ring. -/
structure LK (BT BL : Nat) (T : List Nat) (ls : List (List Nat)) (os : List Nat) (vl vo : Value) (w : World) : Prop where
  bt : BT ∈ T
  bl : BL ∈ T
  ct : w.heap[BT]? = some (Obj.cells #[.bool false] 4)
  cl : w.heap[BL]? = some (Obj.cells #[vl] 31)
  l : SV 9 encS w T vl ls
  o : SV 33 encU w T vo os
theorem QS.lk (h : QS W BT BL R T ps lo us ls os vl vo w) : LK BT BL T ls os vl vo w := ⟨h.bt, h.bl, h.ct, h.cl, h.l, h.o⟩
theorem LK.same (h : LK BT BL T ls os vl vo w) (hs : Same T w w') : LK BT BL T ls os vl vo w' :=
  ⟨h.bt, h.bl, (hs _ h.bt).trans h.ct, (hs _ h.bl).trans h.cl, h.l.keep (fun _ hb => hb) fun g _ hg _ => hs g hg, h.o.keep (fun _ hb => hb) fun g _ hg _ => hs g hg⟩
theorem LK.qs (h : LK BT BL T ls os vl vo w) (hr : RS W T' R ps lo us w) (hT : ∀ b ∈ T, b ∈ T') (hU : ∀ b ∈ T', W.heap.size ≤ b) : QS W BT BL R T' ps lo us ls os vl vo w :=
  ⟨hr, hU, hT _ h.bt, hT _ h.bl, h.ct, h.cl, h.l.keep hT fun _ _ _ _ => rfl, h.o.keep hT fun _ _ _ _ => rfl⟩
theorem LK.cells (h : LK BT BL T ls os vl vo w) : w.cell? ⟨BL, 0, none⟩ = some vl ∧ w.cell? ⟨BT, 0, none⟩ = some (.bool false) ∧ w.frozen? ⟨BT, 0, none⟩ = false :=
  ⟨by rw [cell_of_row _ _ 0 _ 31 (0, 0) h.cl]; rfl, by rw [cell_of_row _ _ 0 _ 4 (0, 0) h.ct]; rfl, frozen_of_row _ _ 0 _ 4 h.ct⟩
/-- A string has been appended, and l is stored. -/
theorem QS.app_l (h : QS W BT BL R T ps lo us ls os vl vo w) {S : List Nat} (hl : SV 9 encS w' T' v' ls') (hT : ∀ b ∈ T', (b ∈ T ∨ w.heap.size ≤ b) ∧ (b ∈ T ∨ b < w'.heap.size)) (hTT : ∀ b ∈ T, b ∈ T') (ht : Turn S w w') (hS : ∀ b ∈ S, b ∈ T ∧ ∃ cur, w.heap[b]? = some (Obj.cells cur 9)) :
    QS W BT BL R T' ps lo us ls' os v' vo (w'.setCell ⟨BL, 0, none⟩ v') ∧ w'.cell? ⟨BL, 0, none⟩ = some vl ∧ w'.frozen? ⟨BL, 0, none⟩ = false := by
  have hk : ∀ (b : Nat) (cs : Array Value) (t : TypeId), w.heap[b]? = some (Obj.cells cs t) → t ≠ 9 → w'.heap[b]? = some (Obj.cells cs t) := fun b cs t hb hne => by
    rw [ht.block b (Array.getElem?_eq_some_iff.1 hb).1 fun hm => ?_]
    · exact hb
    · obtain ⟨_, cur, hc⟩ := hS b hm
      rw [hc] at hb
      simp at hb
      exact hne hb.2.symm
  have hr := (h.rs.app h.up ht (fun b hb => (hS b hb).1) hT)
  have hcl := hk BL _ _ h.cl (by decide)
  have hct := hk BT _ _ h.ct (by decide)
  have hne : BT ≠ BL := fun e => by have := h.ct; rw [e, h.cl] at this; simp at this
  refine ⟨⟨hr.set BL 0 v' (hTT _ h.bl) (h.up _ h.bl), up_app h.rs h.up hT, hTT _ h.bt, hTT _ h.bl, (Below.heap_setCell _ _ _ _ hne).trans hct, ?_, hl.keep (fun _ hb => hb) fun g cur _ hg => Below.heap_setCell _ _ _ _ fun e => ?_, (h.o.keep hTT fun g cur _ hg => (hk g _ _ hg (by decide)).trans hg.symm).keep (fun _ hb => hb) fun g cur _ hg => Below.heap_setCell _ _ _ _ fun e => ?_⟩, ?_, frozen_of_row _ _ 0 _ 31 hcl⟩
  · have := heap_setCell_same w' BL 0 _ 31 v' hcl
    simpa using this
  · simp only at e; rw [e, hcl] at hg; simp at hg
  · simp only at e; rw [e, hcl] at hg; simp at hg
  · rw [cell_of_row _ _ 0 _ 31 (0, 0) hcl]; rfl
/-- l is stored. -/
theorem QS.set_l (h : QS W BT BL R T ps lo us ls os vl vo w) (hl : SV 9 encS w T v' ls') : QS W BT BL R T ps lo us ls' os v' vo (w.setCell ⟨BL, 0, none⟩ v') :=
  (h.app_l (S := []) hl (fun b hb => ⟨.inl hb, .inl hb⟩) (fun _ hb => hb) (Turn.refl _ _) (by simp)).1
theorem QS.cl_cell (h : QS W BT BL R T ps lo us ls os vl vo w) : w.cell? ⟨BL, 0, none⟩ = some vl ∧ w.frozen? ⟨BL, 0, none⟩ = false :=
  ⟨by rw [cell_of_row _ _ 0 _ 31 (0, 0) h.cl]; rfl, frozen_of_row _ _ 0 _ 31 h.cl⟩
theorem QS.ct_cell (h : QS W BT BL R T ps lo us ls os vl vo w) : w.cell? ⟨BT, 0, none⟩ = some (.bool false) ∧ w.frozen? ⟨BT, 0, none⟩ = false :=
  ⟨by rw [cell_of_row _ _ 0 _ 4 (0, 0) h.ct]; rfl, frozen_of_row _ _ 0 _ 4 h.ct⟩
/-- A number has been appended. -/
theorem QS.app_o (h : QS W BT BL R T ps lo us ls os vl vo w) {S : List Nat} (hl : SV 33 encU w' T' v' os') (hT : ∀ b ∈ T', (b ∈ T ∨ w.heap.size ≤ b) ∧ (b ∈ T ∨ b < w'.heap.size)) (hTT : ∀ b ∈ T, b ∈ T') (ht : Turn S w w') (hS : ∀ b ∈ S, b ∈ T ∧ ∃ cur, w.heap[b]? = some (Obj.cells cur 33)) :
    QS W BT BL R T' ps lo us ls os' vl v' w' := by
  have hk : ∀ (b : Nat) (cs : Array Value) (t : TypeId), w.heap[b]? = some (Obj.cells cs t) → t ≠ 33 → w'.heap[b]? = some (Obj.cells cs t) := fun b cs t hb hne => by
    rw [ht.block b (Array.getElem?_eq_some_iff.1 hb).1 fun hm => ?_]
    · exact hb
    · obtain ⟨_, cur, hc⟩ := hS b hm
      rw [hc] at hb
      simp at hb
      exact hne hb.2.symm
  exact ⟨h.rs.app h.up ht (fun b hb => (hS b hb).1) hT, up_app h.rs h.up hT, hTT _ h.bt, hTT _ h.bl, hk BT _ _ h.ct (by decide), hk BL _ _ h.cl (by decide), h.l.keep hTT fun g cur _ hg => (hk g _ _ hg (by decide)).trans hg.symm, hl⟩
theorem mod3 (x : Int) : ∃ (t u : Int) (p : Nat), x.tmod 3 = t ∧ RowKit.wrap64 (t + 3) = u ∧ IntKind.i64.wrap (t + 3) = u ∧ u.tmod 3 = (p : Int) ∧ p < 3 := by
  have h1 := Int.tmod_lt_of_pos x (show (0 : Int) < 3 by omega)
  have h2 := Int.lt_tmod_of_pos x (show (0 : Int) < 3 by omega)
  have e : RowKit.wrap64 (x.tmod 3 + 3) = x.tmod 3 + 3 := by unfold RowKit.wrap64; omega
  have e2 : IntKind.i64.wrap (x.tmod 3 + 3) = x.tmod 3 + 3 := by rw [IntKind.wrap_i64]; omega
  refine ⟨_, _, ((x.tmod 3 + 3) % 3).toNat, rfl, e, e2, ?_, by omega⟩
  rw [Int.tmod_eq_emod_of_nonneg (by omega)]
  omega
theorem infoS : (Try.prog.info? 9).map (fun i => (i.zero, i.size, i.bytes)) = some (some (.string ByteArray.empty), 1, 16) := by kernel_rfl
/-- A string is appended to l. -/
theorem append_l (h : QS W BT BL R T ps lo us ls os vl vo w) (ty : TypeId) (p : List Nat) (q : Nat) (hq : w.cell? ⟨q, 0, none⟩ = some (.string (Str p))) (hl : ls.length ≤ 1000) :
    ∃ v' w' T', (Builtin.append_ #[31, 31] ty #[vl, .slice (some ⟨q, 0, none⟩) 1 1]).run Try.prog w = .ok v' w' ∧ QS W BT BL R T' ps lo us (ls ++ [p]) os v' vo (w'.setCell ⟨BL, 0, none⟩ v') ∧ w'.cell? ⟨BL, 0, none⟩ = some vl ∧ w'.frozen? ⟨BL, 0, none⟩ = false ∧ Below W.heap.size W w' ∧ ∀ (b : Nat) (cs : Array Value), w.heap[b]? = some (Obj.cells cs 35) → w'.heap[b]? = some (Obj.cells cs 35) := by
  obtain ⟨i0, hi, hz0, hz1, hz2⟩ := info_parts infoS
  obtain ⟨v', w', T', hr, hs, hT, hTT, S, ht, hS⟩ := append_sv (P := Try.prog) 31 ty i0 (.string ByteArray.empty) 16 Try.underlying31 hi hz0 hz1 hz2 (by omega) rfl h.l hl p rfl q hq
  obtain ⟨q1, q2, q3⟩ := h.app_l hs hT hTT ht hS
  refine ⟨v', w', T', hr, q1, q2, q3, h.rs.b.trans (ht.below h.rs.b.size fun b hb => h.up b (hS b hb).1), fun b cs hb => ?_⟩
  rw [ht.block b (Array.getElem?_eq_some_iff.1 hb).1 fun hm => ?_]
  · exact hb
  · obtain ⟨_, cur, hc⟩ := hS b hm
    rw [hc] at hb
    simp at hb
/-- A number is appended to out. -/
theorem append_o (h : QS W BT BL R T ps lo us ls os vl vo w) (ty : TypeId) (x : Nat) (q : Nat) (hq : w.cell? ⟨q, 0, none⟩ = some (.int .u64 (x : Int))) (hl : os.length ≤ 1000) :
    ∃ v' w' T', (Builtin.append_ #[28, 28] ty #[vo, .slice (some ⟨q, 0, none⟩) 1 1]).run Try.prog w = .ok v' w' ∧ QS W BT BL R T' ps lo us ls (os ++ [x]) vl v' w' := by
  obtain ⟨i0, hi, hz0, hz1, hz2⟩ := info_parts infoU
  obtain ⟨v', w', T', hr, hs, hT, hTT, S, ht, hS⟩ := append_sv (P := Try.prog) 28 ty i0 (.int .u64 0) 8 Try.underlying28 hi hz0 hz1 hz2 (by omega) rfl h.o hl x rfl q hq
  exact ⟨v', w', T', hr, h.app_o hs hT hTT ht hS⟩
end Go.Proofs.Ytoccgbfnbpkphaa
