/- same: what is kept while the objects come. -/
import Derived.Test.YtodionedjokdmaaIj
import Derived.Test.YtodionedjokdmaaIg
import Derived.Test.YtodionedjokdmaaIm
set_option linter.unusedVariables false
set_option linter.unusedSimpArgs false
namespace Go.Proofs.Ytodionedjokdmaa
open Go.RowKit Go.Maps
set_option linter.unusedVariables false
set_option linter.unusedSimpArgs false
attribute [local go_sem] Oper.semAt_some
theorem play_any {W w : World} {T : List Nat} {t mB BO : Nat} {os : List Nat} {G : GM} {gm : Nat → Option CV} {v : Value} (h : PZ W T t mB BO os G gm v w) (k wh on : Int) (n hm : Nat) :
    Calls Try.prog 10 #[.pointer (some ⟨t, 0, none⟩), .map (some mB), .pointer (some ⟨BO, 0, none⟩), .agg #[.int .i64 k, .int .u64 (n : Int), .int .u64 (hm : Int), .int .i64 wh, .int .i64 on]] w fun e w' => e = .returned (.bool true) ∧
      ∃ T' os' G' gm' v', (∀ b ∈ T, b ∈ T') ∧ PZ W T' t mB BO os' G' gm' v' w' := by
  obtain ⟨m, em, _⟩ := and3 k
  by_cases h0 : m = 0
  · exact play_rem h k wh on n hm (by rw [em, h0]; rfl)
  · exact play_add h k wh on n hm (by rw [em]; omega)
/-- What stands while objects come: all but a few blocks is as it was. -/
structure SI (w : World) (T0 : List Nat) (B7 B8 : Nat) (TT pre : List Nat) (W : World) : Prop where
  ht : ∀ b ∈ TT, b ∈ T0 ∨ w.heap.size ≤ b
  os : W.os = w.os
  tape : W.tape = w.tape
  output : W.output = w.output
  size : w.heap.size ≤ W.heap.size
  keep : ∀ b, b < w.heap.size → b ∉ T0 → b ≠ B7 → b ≠ B8 → W.heap[b]? = w.heap[b]?
  c7 : W.heap[B7]? = some (Obj.cells #[.int .u64 (pre.getLastD 0 : Nat)] 28)
  c8 : W.heap[B8]? = some (Obj.cells #[.int .i64 (pre.length : Nat)] 3)
theorem SI.grows {w : World} {T0 : List Nat} {B7 B8 : Nat} (h7 : B7 ∉ T0 ∧ B7 < w.heap.size) (h8 : B8 ∉ T0 ∧ B8 < w.heap.size) : Grows (SI w T0 B7 B8) := by
  intro T T' s W W' h hT ht hn
  have hnT : ∀ b, b < w.heap.size → b ∉ T0 → b ∉ T := fun b hb h0 hm => by
    rcases h.ht b hm with h1 | h1
    · exact h0 h1
    · omega
  have hbl : ∀ b, b < w.heap.size → b ∉ T0 → W'.heap[b]? = W.heap[b]? := fun b hb h0 => ht.block b (Nat.lt_of_lt_of_le hb h.size) (hnT b hb h0)
  refine ⟨fun b hb => ?_, ht.os.trans h.os, ht.tape.trans h.tape, ht.output.trans h.output, Nat.le_trans h.size ht.size, fun b hb h0 n7 n8 => (hbl b hb h0).trans (h.keep b hb h0 n7 n8), (hbl B7 h7.2 h7.1).trans h.c7, (hbl B8 h8.2 h8.1).trans h.c8⟩
  rcases (hn b hb).1 with h1 | h1
  · exact h.ht b h1
  · have := h.size; exact .inr (by omega)
/-- One more has come. -/
theorem SI.step {w : World} {T0 : List Nat} {B7 B8 : Nat} (h7 : B7 ∉ T0 ∧ B7 < w.heap.size) (h8 : B8 ∉ T0 ∧ B8 < w.heap.size) (hne : B7 ≠ B8) {TT pre : List Nat} {W : World} {x : Nat} (h : SI w T0 B7 B8 TT pre W) :
    SI w T0 B7 B8 TT (pre ++ [x]) ((W.setCell ⟨B7, 0, none⟩ (.int .u64 (x : Int))).setCell ⟨B8, 0, none⟩ (.int .i64 ((pre.length + 1 : Nat) : Int))) ∧ Same TT W ((W.setCell ⟨B7, 0, none⟩ (.int .u64 (x : Int))).setCell ⟨B8, 0, none⟩ (.int .i64 ((pre.length + 1 : Nat) : Int))) := by
  have ho : ∀ b, b ≠ B7 → b ≠ B8 → ((W.setCell ⟨B7, 0, none⟩ (.int .u64 (x : Int))).setCell ⟨B8, 0, none⟩ (.int .i64 ((pre.length + 1 : Nat) : Int))).heap[b]? = W.heap[b]? := fun b h1 h2 => (heap_setCell_other _ _ _ _ h2).trans (heap_setCell_other _ _ _ _ h1)
  have a7 := heap_setCell_same W B7 0 _ 28 (.int .u64 (x : Int)) h.c7
  have a8 := heap_setCell_same (W.setCell ⟨B7, 0, none⟩ (.int .u64 (x : Int))) B8 0 _ 3 (.int .i64 ((pre.length + 1 : Nat) : Int)) ((heap_setCell_other _ _ _ _ (fun e => hne (by have e2 : B8 = B7 := e; exact e2.symm))).trans h.c8)
  refine ⟨⟨h.ht, h.os, h.tape, h.output, by simpa using h.size, fun b hb h0 n7 n8 => (ho b n7 n8).trans (h.keep b hb h0 n7 n8), ?_, ?_⟩, fun b hb => ?_⟩
  · refine (heap_setCell_other _ _ _ _ (fun e => hne (by have e2 : B7 = B8 := e; exact e2))).trans ?_
    rw [List.getLastD_concat]; simpa using a7
  · rw [List.length_append]; simpa using a8
  · refine ho b (fun e => ?_) fun e => ?_
    · subst e
      rcases h.ht _ hb with h1 | h1
      · exact h7.1 h1
      · have := h7.2; omega
    · subst e
      rcases h.ht _ hb with h1 | h1
      · exact h8.1 h1
      · have := h8.2; omega
/-- Its own boxes. -/
structure SSt (w : World) (mB : Nat) (v : Value) (S : Nat) (W0 : World) : Prop where
  b : Below S w W0
  size : W0.heap.size = S + 5
  c4 : W0.heap[S]? = some (Obj.cells #[.map (some mB)] 26)
  c5 : W0.heap[S + 1]? = some (Obj.cells #[v] 27)
  c6 : W0.heap[S + 1 + 1]? = some (Obj.cells #[.bool false] 4)
  c7 : W0.heap[S + 1 + 1 + 1]? = some (Obj.cells #[.int .u64 (([] : List Nat).getLastD 0 : Nat)] 28)
  c8 : W0.heap[S + 1 + 1 + 1 + 1]? = some (Obj.cells #[.int .i64 (([] : List Nat).length : Nat)] 3)
theorem same_start (w : World) (mB : Nat) (A : Option Addr) (l c : Nat) : SSt w mB (.slice A l c) w.heap.size (((((w.alloc (Obj.cells #[.map (some mB)] 26)).alloc (Obj.cells #[.slice A l c] 27)).alloc (Obj.cells #[.bool false] 4)).alloc (Obj.cells #[.int .u64 0] 28)).alloc (Obj.cells #[.int .i64 0] 3)) := by
  have nw : ∀ (x : World) (n : Nat) (o : Obj), x.heap.size = n → (x.alloc o).heap[n]? = some o := fun x n o e => by rw [← e]; exact heap_alloc_new x o
  refine ⟨(((((Below.refl _ _).alloc (Nat.le_refl _) _).alloc (by simp) _).alloc (by simp <;> omega) _).alloc (by simp <;> omega) _).alloc (by simp <;> omega) _, by simp, ?_, ?_, ?_, ?_, ?_⟩
  · rw [Below.heap_alloc _ _ _ (by simp <;> omega), Below.heap_alloc _ _ _ (by simp <;> omega), Below.heap_alloc _ _ _ (by simp <;> omega), Below.heap_alloc _ _ _ (by simp)]; exact nw _ _ _ (by simp)
  · rw [Below.heap_alloc _ _ _ (by simp <;> omega), Below.heap_alloc _ _ _ (by simp <;> omega), Below.heap_alloc _ _ _ (by simp)]; exact nw _ _ _ (by simp)
  · rw [Below.heap_alloc _ _ _ (by simp <;> omega), Below.heap_alloc _ _ _ (by simp)]; exact nw _ _ _ (by simp)
  · rw [Below.heap_alloc _ _ _ (by simp)]; exact nw _ _ _ (by simp)
  · exact nw _ _ _ (by simp)
theorem SI.below {w : World} {T0 : List Nat} {B7 B8 : Nat} (h7 : B7 ∉ T0 ∧ B7 < w.heap.size) (h8 : B8 ∉ T0 ∧ B8 < w.heap.size) {TT pre : List Nat} {W W' : World} (h : SI w T0 B7 B8 TT pre W) (hT : ∀ b ∈ TT, b < W.heap.size) (hb : Below W.heap.size W W') : SI w T0 B7 B8 TT pre W' :=
  SI.grows h7 h8 TT TT pre W W' h hT (Turn.of_below hb) fun b hm => ⟨.inl hm, Nat.lt_of_lt_of_le (hT b hm) hb.size⟩
/-- What is read of an object, at any such time. -/
structure RdX (W0 : World) (T T0 : List Nat) (S mB b : Nat) (os : List Nat) (gm : Nat → Option CV) (v : Value) (cs : Array Value) (w : World) : Prop where
  all : ∀ TT pre wS, SI W0 T0 (S + 1 + 1 + 1) (S + 1 + 1 + 1 + 1) TT pre wS → wS.heap[b]? = some (Obj.cells cs 60) ∧ wS.heap[S]? = some (Obj.cells #[.map (some mB)] 26) ∧ wS.heap[S + 1]? = some (Obj.cells #[v] 27) ∧ MapG rdC wS mB os.length os gm ∧ RW (· ∈ T) 28 inU wS v os ∧
    ∀ (own : Nat → Prop) (vk : Value) (ks : List Nat), RW own 28 inU w vk ks → RW own 28 inU wS vk ks
theorem same_read {W w W0 : World} {T T0 : List Nat} {t mB BO S b : Nat} {os : List Nat} {G : GM} {gm : Nat → Option CV} {v : Value} {cs : Array Value} (h : PZ W T t mB BO os G gm v w) (hT0 : ∀ b ∈ T0, b < w.heap.size ∧ b ≠ mB ∧ ∀ cur u, w.heap[b]? = some (Obj.cells cur u) → u = 92) (hS : w.heap.size = S) (hX : SSt w mB v S W0) (hcs : w.heap[b]? = some (Obj.cells cs 60)) : RdX W0 T T0 S mB b os gm v cs w := by
  refine ⟨fun TT pre wS hI => ?_⟩
  have sz := hX.size
  have old : ∀ b, b < w.heap.size → b ∉ T0 → wS.heap[b]? = w.heap[b]? := fun b hb h0 => (hI.keep b (by omega) h0 (by omega) (by omega)).trans (hX.b.block b (by omega))
  have cel : ∀ b cur u, w.heap[b]? = some (Obj.cells cur u) → u ≠ 92 → wS.heap[b]? = w.heap[b]? := fun b cur u hb hu => old b (Array.getElem?_eq_some_iff.1 hb).1 fun hm => hu ((hT0 b hm).2.2 cur u hb)
  have hnT : ∀ b, S ≤ b → b ∉ T0 := fun b hb hm => by have := (hT0 b hm).1; omega
  exact ⟨(cel b _ _ hcs (by decide)).trans hcs, (hI.keep S (by omega) (hnT _ (Nat.le_refl _)) (by omega) (by omega)).trans hX.c4, (hI.keep _ (by omega) (hnT _ (by omega)) (by omega) (by omega)).trans hX.c5, h.lp.mp.same (old mB h.lp.mp.lt fun hm => (hT0 mB hm).2.1 rfl), h.lp.rw.keep fun b cur hb hc => ⟨hb, cel b cur _ hc (by decide)⟩, fun own vk ks hk => hk.keep fun b cur hb hc => ⟨hb, cel b cur _ hc (by decide)⟩⟩
theorem same_facts {W0 w wS : World} {T T0 TT pre : List Nat} {S mB b x : Nat} {os : List Nat} {gm : Nat → Option CV} {v : Value} {cs : Array Value} {kd : Int} {hm : Nat} {cn cw co : Int} (h : RdX W0 T T0 S mB b os gm v cs w) (hI : SI W0 T0 (S + 1 + 1 + 1) (S + 1 + 1 + 1 + 1) TT pre wS) (h2 : cs[2]? = some (inU x)) (h3 : cs[3]? = some (.int .i64 kd)) (h6 : cs[6]? = some (inU hm)) (hc : gm x = some ⟨1, cn, (hm : Int), cw, co⟩) (hx : U64 x) :
    wS.cell? ⟨b, 2, none⟩ = some (.int .u64 (x : Int)) ∧ wS.cell? ⟨b, 3, none⟩ = some (.int .i64 kd) ∧ wS.cell? ⟨b, 6, none⟩ = some (.int .u64 (hm : Int)) ∧ wS.cell? ⟨S, 0, none⟩ = some (.map (some mB)) ∧
    (Instr.lookup 26 (.map (some mB)) (.int .u64 (x : Int)) false).run Try.prog wS = .ok (.agg #[.int .i64 1, .int .u64 cn, .int .u64 (hm : Int), .int .i64 cw, .int .i64 co]) wS ∧
    (Instr.field 30 (.agg #[.int .i64 1, .int .u64 cn, .int .u64 (hm : Int), .int .i64 cw, .int .i64 co]) 0).run Try.prog wS = .ok (.int .i64 1) wS ∧ (Instr.field 30 (.agg #[.int .i64 1, .int .u64 cn, .int .u64 (hm : Int), .int .i64 cw, .int .i64 co]) 2).run Try.prog wS = .ok (.int .u64 (hm : Int)) wS := by
  obtain ⟨r1, r2, r3, r4, r5, _⟩ := h.all _ _ _ hI
  have lk := r4.at_ Try.underlying26 rd_C (zeroC wS) hx
  rw [hc] at lk
  exact ⟨by rw [cell_of_row _ _ _ _ _ (0, 0) r1]; exact h2, by rw [cell_of_row _ _ _ _ _ (0, 0) r1]; exact h3, by rw [cell_of_row _ _ _ _ _ (0, 0) r1]; exact h6, by rw [cell_of_row _ _ _ _ _ (0, 0) r2]; rfl, lk, fldC0 _ _ _ _ _ _, fldC2 _ _ _ _ _ _⟩
theorem rise_le (l : List Nat) (n : Nat) (h : l.Pairwise (· < ·)) (hn : ∀ y ∈ l, y < n) : l.length ≤ n := by
  have := nodup_len' l (List.range n) (h.imp fun hlt e => by omega) fun y hy => List.mem_range.2 (hn y hy)
  simpa using this
theorem filter_get {os : List Nat} {p : Nat → Bool} {j k : Nat} (hk : os[j]? = some k) (hp : p k = true) : (os.filter p)[((os.take j).filter p).length]? = some k := by
  obtain ⟨hl, he⟩ := List.getElem?_eq_some_iff.1 hk
  have e : os = os.take j ++ k :: os.drop (j + 1) := by
    rw [← he, List.getElem_cons_drop hl]
    exact (List.take_append_drop j os).symm
  have e2 : os.filter p = (os.take j).filter p ++ k :: (os.drop (j + 1)).filter p := by
    conv => lhs; rw [e]
    rw [List.filter_append, List.filter_cons, if_pos hp]
  rw [e2, List.getElem?_append_right (Nat.le_refl _)]
  simp
end Go.Proofs.Ytodionedjokdmaa