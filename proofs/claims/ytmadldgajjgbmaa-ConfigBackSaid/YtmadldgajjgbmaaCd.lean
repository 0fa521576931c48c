/- A plan's configuration: how the list of objects grows. -/
import Derived.Test.YtmadldgajjgbmaaCb
set_option linter.unusedVariables false
set_option linter.unusedSimpArgs false
namespace Go.Proofs.Ytmadldgajjgbmaa
open Go.RowKit
set_option linter.unusedVariables false
set_option linter.unusedSimpArgs false
/-- A plan's configuration so far: its box C, the answer's box R. -/
structure CS (W : World) (co fr nm : Int) (A1 : Option Addr) (l1 c1 : Nat) (A2 : Option Addr) (l2 c2 : Nat) (P R C : Nat) (xs : List Sl) (ss : List Sd) (k : Nat) (w : World) : Prop where
  p : PlB W P co fr nm A1 l1 c1 A2 l2 c2 w
  r : w.heap[R]? = some (Obj.cells #[.int .i64 0, .int .i64 0, .int .i64 0, .slice none 0 0, .slice none 0 0] 29)
  c : ∃ vs vo ovs, w.heap[C]? = some (Obj.cells #[.int .i64 co, .int .i64 fr, .int .i64 nm, vs, vo] 29) ∧ RV (fun b => W.heap.size ≤ b) 49 2 encSl w vs xs ∧ RV (fun b => W.heap.size ≤ b) 44 12 encO w vo ovs ∧ ovs.map Ov.m = (ss.take k).map cfgO ∧ ∀ o ∈ ovs, o.Own W.heap.size w
  n : W.heap.size ≤ P ∧ W.heap.size ≤ R ∧ W.heap.size ≤ C ∧ P ≠ C ∧ R ≠ C
section
variable {W w w' : World} {co fr nm : Int} {A1 A2 : Option Addr} {l1 c1 l2 c2 P R C k : Nat} {xs : List Sl} {ss : List Sd}
theorem CS.below (h : CS W co fr nm A1 l1 c1 A2 l2 c2 P R C xs ss k w) (hb : Below w.heap.size w w') : CS W co fr nm A1 l1 c1 A2 l2 c2 P R C xs ss k w' := by
  obtain ⟨vs, vo, ovs, k1, k2, k3, k4, k5⟩ := h.c
  exact ⟨h.p.below hb, (hb.block _ (Array.getElem?_eq_some_iff.1 h.r).1).trans h.r, ⟨vs, vo, ovs, (hb.block _ (Array.getElem?_eq_some_iff.1 k1).1).trans k1, k2.keep fun b cur h1 h2 => ⟨h1, hb.block b (Array.getElem?_eq_some_iff.1 h2).1⟩, k3.keep fun b cur h1 h2 => ⟨h1, hb.block b (Array.getElem?_eq_some_iff.1 h2).1⟩, k4, fun o ho => (k5 o ho).below hb⟩, h.n⟩
/-- It begins. -/
theorem CS.start {vs : Value} (hp : PlB W P co fr nm A1 l1 c1 A2 l2 c2 w) (hr : w.heap[R]? = some (Obj.cells #[.int .i64 0, .int .i64 0, .int .i64 0, .slice none 0 0, .slice none 0 0] 29)) (hs : RV (fun b => W.heap.size ≤ b) 49 2 encSl w vs xs)
    (hc : w.heap[C]? = some (Obj.cells #[.int .i64 0, .int .i64 0, .int .i64 0, .slice none 0 0, .slice none 0 0] 29)) (hn : W.heap.size ≤ P ∧ W.heap.size ≤ R ∧ W.heap.size ≤ C ∧ P ≠ C ∧ R ≠ C) :
    CS W co fr nm A1 l1 c1 A2 l2 c2 P R C xs ss 0 (w.setRow C #[.int .i64 co, .int .i64 fr, .int .i64 nm, vs, .slice none 0 0]) := by
  have ht := Turn.row w C #[.int .i64 co, .int .i64 fr, .int .i64 nm, vs, .slice none 0 0]
  have ho : ∀ b, b ≠ C → (w.setRow C #[.int .i64 co, .int .i64 fr, .int .i64 nm, vs, .slice none 0 0]).heap[b]? = w.heap[b]? := fun b hb => setRow_other w C b _ hb
  refine ⟨⟨hp.1.trans (ht.below hp.1.size fun b hb => by rw [List.mem_singleton.1 hb]; exact hn.2.2.1), (ho P hn.2.2.2.1).trans hp.2⟩, (ho R hn.2.2.2.2).trans hr, ⟨vs, _, [], setRow_heap w C _ _ _ _ hc, hs.keep fun b cur h1 h2 => ⟨h1, ho b fun e => ?_⟩, RV.nil _ _, rfl, by simp⟩, hn⟩
  rw [e, hc] at h2
  injection h2 with h2
  injection h2 with _ h2
  cases h2
theorem cells_ty {b : Nat} {c1 c2 : Array Value} {t1 t2 : TypeId} (h1 : w.heap[b]? = some (Obj.cells c1 t1)) (h2 : w.heap[b]? = some (Obj.cells c2 t2)) : t1 = t2 := by
  rw [h1] at h2
  injection h2 with h2
  injection h2 with _ h2
/-- One object more. -/
theorem CS.snoc {S : List Nat} {vs vo v' : Value} {ovs : List Ov} {o : Ov} {s : Sd} (h : CS W co fr nm A1 l1 c1 A2 l2 c2 P R C xs ss k w) (k1 : w.heap[C]? = some (Obj.cells #[.int .i64 co, .int .i64 fr, .int .i64 nm, vs, vo] 29)) (k2 : RV (fun b => W.heap.size ≤ b) 49 2 encSl w vs xs)
    (k4 : ovs.map Ov.m = (ss.take k).map cfgO) (k5 : ∀ o ∈ ovs, o.Own W.heap.size w) (hs : ss[k]? = some s) (hom : o.m = cfgO s) (hown : o.Own W.heap.size w) (hrv : RV (fun b => W.heap.size ≤ b) 44 12 encO w' v' (ovs ++ [o])) (hT : Turn S w w') (hS : ∀ b ∈ S, W.heap.size ≤ b ∧ ∃ cur, w.heap[b]? = some (Obj.cells cur 44)) :
    CS W co fr nm A1 l1 c1 A2 l2 c2 P R C xs ss (k + 1) (w'.setCell ⟨C, 4, none⟩ v') := by
  have hk : ∀ b cur u, u ≠ 44 → w.heap[b]? = some (Obj.cells cur u) → w'.heap[b]? = w.heap[b]? := fun b cur u hu hb => hT.block b (Array.getElem?_eq_some_iff.1 hb).1 fun hm => by
    obtain ⟨_, cur', h2⟩ := hS b hm
    exact hu (cells_ty hb h2)
  have k1' := (hk C _ _ (by decide) k1).trans k1
  have hset := heap_setCell_same w' C 4 _ 29 v' k1'
  have ho : ∀ b, b ≠ C → (w'.setCell ⟨C, 4, none⟩ v').heap[b]? = w'.heap[b]? := fun b hb => heap_setCell_other _ _ _ _ hb
  have hku : ∀ b cur u, u ≠ 44 → u ≠ 29 → w.heap[b]? = some (Obj.cells cur u) → (w'.setCell ⟨C, 4, none⟩ v').heap[b]? = w.heap[b]? := fun b cur u hu hu2 hb => (ho b fun e => hu2 (by rw [e] at hb; exact cells_ty hb k1)).trans (hk b cur u hu hb)
  have hbw : Below W.heap.size W (w'.setCell ⟨C, 4, none⟩ v') := (h.p.1.trans (hT.below h.p.1.size fun b hb => (hS b hb).1)).setCell (p := ⟨C, 4, none⟩) h.n.2.2.1 _
  have hown2 : ∀ o : Ov, o.Own W.heap.size w → o.Own W.heap.size (w'.setCell ⟨C, 4, none⟩ v') := fun o h => by
    have h1 : o.Own W.heap.size w' := h.keep fun b cur u _ hu hb => hk b cur u hu hb
    refine ⟨h1.l.keep fun b cur _ hb => ho b fun e => ?_, h1.c.keep fun b cur _ hb => ho b fun e => ?_, ⟨h1.d.1.keep fun b cur h2 hb => ⟨h2, ho b fun e => ?_⟩, h1.d.2⟩, ⟨h1.p.1.keep fun b cur h2 hb => ⟨h2, ho b fun e => ?_⟩, h1.p.2⟩⟩
    all_goals
      rw [e] at hb
      exact absurd (cells_ty hb k1') (by decide)
  refine ⟨⟨hbw, (hku P _ _ (by decide) (by decide) h.p.2).trans h.p.2⟩, ((ho R h.n.2.2.2.2).trans (hk R _ _ (by decide) h.r)).trans h.r, ⟨vs, v', ovs ++ [o], by simpa using hset, k2.keep fun b cur h1 hb => ⟨h1, hku b cur _ (by decide) (by decide) hb⟩, hrv.keep fun b cur h1 hb => ⟨h1, ho b fun e => ?_⟩, ?_, fun q hq => ?_⟩, h.n⟩
  · rw [e] at hb
    exact absurd (cells_ty hb k1') (by decide)
  · rw [List.map_append, k4, List.take_add_one, hs, List.map_append]
    simp [hom]
  · rcases List.mem_append.1 hq with hq | hq
    · exact hown2 q (k5 q hq)
    · rw [List.mem_singleton.1 hq]; exact hown2 o hown
end
theorem app_ob {own : Nat → Prop} {w : World} {v : Value} {ovs : List Ov} (ty : TypeId) (o : Ov) (h : RV own 44 12 encO w v ovs) (hl : ovs.length + 1 ≤ 100000) :
    ∃ v' w', (Builtin.append_ #[27, 27] ty #[v, .slice (some ⟨w.heap.size, 0, none⟩) 1 1]).run Try.prog (w.alloc (Obj.cells (arO o) 44)) = .ok v' w' ∧ RV (fun b => own b ∨ w.heap.size ≤ b) 44 12 encO w' v' (ovs ++ [o]) ∧ ∃ S, Turn S w w' ∧ ∀ b ∈ S, own b ∧ ∃ cur, w.heap[b]? = some (Obj.cells cur 44) := by
  obtain ⟨i, hi, hz, hsz, hby⟩ := info_parts infoO
  have b1 := below_alloc1 w (Obj.cells (arO o) 44)
  have hn := heap_alloc_new w (Obj.cells (arO o) 44)
  have hlv : LV 12 encO (w.alloc (Obj.cells (arO o) 44)) (some ⟨w.heap.size, 0, none⟩) [o] := fun i q hi => by
    match i, hi with
    | 0, hi =>
      obtain rfl : o = q := by simpa using hi
      refine ⟨_, _, rfl, by simp, fun j u hu => ?_⟩
      rw [cell_of_row _ _ _ _ _ (0, 0) hn]
      have : (arO o).toList = encO o := rfl
      rw [← this] at hu
      simpa using hu
    | i + 1, hi => simp at hi
  have hb : RV own 44 12 encO (w.alloc (Obj.cells (arO o) 44)) v ovs := h.keep fun b cur h1 h2 => ⟨h1, b1.block b (Array.getElem?_eq_some_iff.1 h2).1⟩
  obtain ⟨v', w', hrun, hr, S, hT, hS⟩ := append_rv (P := Try.prog) (ys := [o]) 27 ty i _ 160 Try.underlying27 hi hz hsz hby (by omega) rfl encO_len encO_one (by omega) hb (by simpa using hl) (some ⟨w.heap.size, 0, none⟩) 1 (by simp) hlv
  refine ⟨v', w', hrun, hr.keep fun b cur h1 _ => ⟨h1.imp id fun h => by simp at h; omega, rfl⟩, S.filter (fun b => decide (b < w.heap.size)), ⟨hT.os.trans b1.os, hT.tape.trans b1.tape, hT.output.trans b1.output, Nat.le_trans b1.size hT.size, fun b hb hn => ?_⟩, fun b hb => ?_⟩
  · refine (hT.block b (Nat.lt_of_lt_of_le hb b1.size) fun hm => hn (List.mem_filter.2 ⟨hm, by simpa using hb⟩)).trans (b1.block b hb)
  · obtain ⟨h1, h2⟩ := List.mem_filter.1 hb
    obtain ⟨h3, cur, h4⟩ := hS b h1
    have h2 : b < w.heap.size := by simpa using h2
    exact ⟨h3, cur, by rw [← b1.block b h2]; exact h4⟩
end Go.Proofs.Ytmadldgajjgbmaa
