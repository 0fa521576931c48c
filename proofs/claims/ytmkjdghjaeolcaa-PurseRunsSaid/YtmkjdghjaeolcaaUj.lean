/- PurseRuns: the law's state. -/
import Derived.Test.YtmkjdghjaeolcaaUi
import Derived.Test.YtmkjdghjaeolcaaUk
set_option linter.unusedVariables false
set_option linter.unusedSimpArgs false
namespace Go.Proofs.Ytmkjdghjaeolcaa
open Go.RowKit
set_option linter.unusedVariables false
set_option linter.unusedSimpArgs false
/-- The family (F holds x1, x2; the rows are at v1, v2), what one was (A) and is to be (B), the call (C). -/
structure GS (W : World) (F : Nat) (x1 x2 v1 v2 : Value) (ps : List Pu) (us : List Int) (A B C : Nat) (p q : Pu) (d : Cl) (w : World) : Prop where
  b : Below W.heap.size W w
  l : W.heap.size ≤ F
  f : w.heap[F]? = some (Obj.cells #[x1, x2] 30)
  r : PR (fun b => W.heap.size ≤ b ∧ b ≠ A ∧ b ≠ B) w v1 ps
  ri : RW (fun b => W.heap.size ≤ b) 3 inI w v2 us
  pa : PB w A p
  pb : PB w B q
  pc : w.heap[C]? = some (Obj.cells #[.int .i64 d.k, .int .i64 d.a, .int .i64 d.n] 32)
  ne : A ≠ B
  wa : W.heap.size ≤ A ∧ W.heap.size ≤ B
variable {W w w' : World} {F : Nat} {x1 x2 v1 v2 v' : Value} {ps ps' : List Pu} {us us' : List Int} {A B C b o c n i j : Nat} {p q p' q' : Pu} {d : Cl} {x : Int}
theorem GS.fs (h : GS W F v1 v2 v1 v2 ps us A B C p q d w) : FS W F v1 v2 ps us w := ⟨h.b, h.l, h.f, h.r.keep fun b cur hb _ => ⟨hb.1, rfl⟩, h.ri⟩
theorem GS.lt (h : GS W F x1 x2 v1 v2 ps us A B C p q d w) : F < w.heap.size := (Array.getElem?_eq_some_iff.1 h.f).1
theorem GS.below (h : GS W F x1 x2 v1 v2 ps us A B C p q d w) (hb : Below w.heap.size w w') : GS W F x1 x2 v1 v2 ps us A B C p q d w' :=
  ⟨below_up h.b hb, h.l, (hb.block F h.lt).trans h.f, h.r.below hb, h.ri.keep fun b cur ho hc => ⟨ho, hb.block b (Array.getElem?_eq_some_iff.1 hc).1⟩, h.pa.below hb, h.pb.below hb, (hb.block C (Array.getElem?_eq_some_iff.1 h.pc).1).trans h.pc, h.ne, h.wa⟩
theorem GS.drew (h : GS W F x1 x2 v1 v2 ps us A B C p q d w) : GS W F x1 x2 v1 v2 ps us A B C p q d w.drew := ⟨h.b.drew, h.l, h.f, h.r, h.ri, h.pa, h.pb, h.pc, h.ne, h.wa⟩
theorem GS.made (h : FS W F v1 v2 ps us w) (hA : PB w A p) (hB : PB w B q) (hC : w.heap[C]? = some (Obj.cells #[.int .i64 d.k, .int .i64 d.a, .int .i64 d.n] 32)) (ne : A ≠ B) (wa : W.heap.size ≤ A ∧ W.heap.size ≤ B) (hr : PR (fun b => W.heap.size ≤ b ∧ b ≠ A ∧ b ≠ B) w v1 ps) : GS W F v1 v2 v1 v2 ps us A B C p q d w :=
  ⟨h.b, h.l, h.f, hr, h.q, hA, hB, hC, ne, wa⟩
/-- One cell of a purse of the row is stored to. -/
theorem GS.put (h : GS W F x1 x2 (.slice (some ⟨b, o, none⟩) n c) v2 ps us A B C p q d w) (hi : ps[i]? = some p') (hj : j < 3) (hq : encP q' = (encP p').set j (.int .i64 x)) (hb : Below w.heap.size (w.setCell ⟨b, o + i * 3 + j, none⟩ (.int .i64 x)) w') :
    GS W F x1 x2 (.slice (some ⟨b, o, none⟩) n c) v2 (ps.set i q') us A B C p q d w' := by
  obtain ⟨ho, cur, hc⟩ := h.r.lt
  have other : ∀ (k : Nat) (o : Obj), k < w.heap.size → w.heap[k]? = some o → (∀ cur, o ≠ Obj.cells cur 26) → w'.heap[k]? = w.heap[k]? := fun k o hl hk hn => (hb.block k hl).trans (heap_setCell_other _ _ _ _ (fun e => by
    rw [e, hc] at hk; injection hk with hk; exact hn cur hk.symm))
  exact ⟨below_put h.b ho.1 hb, h.l, (other F _ h.lt h.f (fun cur e => by simp at e)).trans h.f, h.r.put hi hj hq hb, h.ri.keep fun k cur' hk hck => ⟨hk, other k _ (Array.getElem?_eq_some_iff.1 hck).1 hck (fun cur e => by simp at e)⟩,
    h.pa.other hb (Ne.symm ho.2.1), h.pb.other hb (Ne.symm ho.2.2), (other C _ (Array.getElem?_eq_some_iff.1 h.pc).1 h.pc (fun cur e => by simp at e)).trans h.pc, h.ne, h.wa⟩
/-- What it is to be is stored to. -/
theorem GS.putB (h : GS W F x1 x2 v1 v2 ps us A B C p q d w) (hj : j < 3) (hq : encP q' = (encP q).set j (.int .i64 x)) (hb : Below w.heap.size (w.setCell ⟨B, j, none⟩ (.int .i64 x)) w') : GS W F x1 x2 v1 v2 ps us A B C p q' d w' := by
  have other : ∀ (k : Nat) (o : Obj), k < w.heap.size → w.heap[k]? = some o → (∀ cur, o ≠ Obj.cells cur 26) → w'.heap[k]? = w.heap[k]? := fun k o hl hk hn => (hb.block k hl).trans (heap_setCell_other _ _ _ _ (fun e => by
    rw [e, h.pb] at hk; injection hk with hk; exact hn _ hk.symm))
  exact ⟨below_put h.b h.wa.2 hb, h.l, (other F _ h.lt h.f (fun cur e => by simp at e)).trans h.f, h.r.keep fun k cur hk hc => ⟨hk, (hb.block k (Array.getElem?_eq_some_iff.1 hc).1).trans (heap_setCell_other _ _ _ _ hk.2.2)⟩, h.ri.keep fun k cur' hk hck => ⟨hk, other k _ (Array.getElem?_eq_some_iff.1 hck).1 hck (fun cur e => by simp at e)⟩,
    h.pa.other hb h.ne, h.pb.put hj hq hb, (other C _ (Array.getElem?_eq_some_iff.1 h.pc).1 h.pc (fun cur e => by simp at e)).trans h.pc, h.ne, h.wa⟩
/-- One more purse. -/
theorem GS.app1 {a X : Nat} {g : Pu} (h : GS W F x1 x2 v1 v2 ps us A B C p q d w) (hX : ∀ o n c, v1 ≠ .slice (some ⟨X, o, none⟩) n c) (hg : PB w a g) (hl : ps.length + 1 ≤ 100000) :
    ∃ v' w', (Builtin.append_ #[27, 27] 27 #[v1, .slice (some ⟨a, 0, none⟩) 1 1]).run Try.prog w = .ok v' w' ∧ GS W F x1 x2 v' v2 (ps ++ [g]) us A B C p q d w' ∧ (∀ (k : Nat) (o : Obj), w.heap[k]? = some o → (∀ cur, o ≠ Obj.cells cur 26) → w'.heap[k]? = some o) ∧ (∀ e : Pu, PB w X e → PB w' X e) := by
  have hrX : PR (fun b => (W.heap.size ≤ b ∧ b ≠ A ∧ b ≠ B) ∧ b ≠ X) w v1 ps := by
    rcases h.r with h | ⟨g, o, cap, cur, h1, h2, h3⟩
    · exact .inl h
    · exact .inr ⟨g, o, cap, cur, h1, ⟨h2, fun e => hX o _ _ (by rw [← e]; exact h1)⟩, h3⟩
  obtain ⟨i, hi, hie⟩ := Option.map_eq_some_iff.1 infoP
  injection hie with hz h2
  injection h2 with hsz hby
  have hlv : LV 3 encP w (some ⟨a, 0, none⟩) [g] := fun i y hi => by
    match i with
    | 0 =>
      obtain rfl : g = y := by simpa using hi
      refine ⟨a, 0, rfl, hg.lt, fun j u hu => ?_⟩
      have hpv := hg.pv
      match j with
      | 0 => simp [encP] at hu; subst hu; exact hpv.c0
      | 1 => simp [encP] at hu; subst hu; exact hpv.c1
      | 2 => simp [encP] at hu; subst hu; exact hpv.c2
      | j + 3 => simp [encP] at hu
    | i + 1 => simp at hi
  obtain ⟨v', w', hrun, hr, S, hT, hS⟩ := append_rv (P := Try.prog) (ys := [g]) 27 27 i _ 24 Try.underlying27 hi hz hsz hby (by omega) rfl encP_len encP_one (by omega) hrX (by simpa using hl) (some ⟨a, 0, none⟩) 1 (by simp) hlv
  have other : ∀ (k : Nat) (o : Obj), w.heap[k]? = some o → (∀ cur, o ≠ Obj.cells cur 26) → w'.heap[k]? = w.heap[k]? := fun k o hk hn => hT.block k (Array.getElem?_eq_some_iff.1 hk).1 fun hm => by
    obtain ⟨_, cur, hc⟩ := hS k hm
    rw [hk] at hc
    injection hc with hc
    exact hn cur hc
  have hA := h.pa.lt
  have hB := h.pb.lt
  exact ⟨v', w', hrun, ⟨h.b.trans (hT.below h.b.size fun b hb => (hS b hb).1.1.1), h.l, (other F _ h.f (fun cur e => by simp at e)).trans h.f, hr.keep fun b cur hb _ => ⟨by
      rcases hb with hb | hb
      · exact hb.1
      · have := h.b.size
        exact ⟨by omega, by omega, by omega⟩, rfl⟩, h.ri.keep fun k cur hk hc => ⟨hk, other k _ hc (fun cur e => by simp at e)⟩,
    (hT.block A hA fun hm => (hS A hm).1.1.2.1 rfl).trans h.pa, (hT.block B hB fun hm => (hS B hm).1.1.2.2 rfl).trans h.pb, (other C _ h.pc (fun cur e => by simp at e)).trans h.pc, h.ne, h.wa⟩, fun k o hk hn => (other k o hk hn).trans hk, fun e he => (hT.block X he.lt fun hm => (hS X hm).1.2 rfl).trans he⟩
theorem infoI : (Try.prog.info? 3).map (fun i => (i.zero, i.size, i.bytes)) = some (some (.int .i64 0), 1, 8) := by kernel_rfl
/-- One more number. -/
theorem GS.app2 {a : Nat} {g : Int} (h : GS W F x1 x2 v1 v2 ps us A B C p q d w) (hg : w.heap[a]? = some (Obj.cells #[.int .i64 g] 3)) (hl : us.length + 1 ≤ 100000) :
    ∃ v' w', (Builtin.append_ #[28, 28] 28 #[v2, .slice (some ⟨a, 0, none⟩) 1 1]).run Try.prog w = .ok v' w' ∧ GS W F x1 x2 v1 v' ps (us ++ [g]) A B C p q d w' ∧ (∀ (k : Nat) (o : Obj), w.heap[k]? = some o → (∀ cur, o ≠ Obj.cells cur 3) → w'.heap[k]? = some o) := by
  obtain ⟨i, hi, hie⟩ := Option.map_eq_some_iff.1 infoI
  injection hie with hz h2
  injection h2 with hsz hby
  have hlv : LR inI w (some ⟨a, 0, none⟩) [g] := fun i y hi => by
    match i with
    | 0 =>
      obtain rfl : g = y := by simpa using hi
      refine ⟨a, 0, rfl, (Array.getElem?_eq_some_iff.1 hg).1, ?_⟩
      rw [cell_of_row _ _ _ _ _ _ hg]; rfl
    | i + 1 => simp at hi
  obtain ⟨v', w', hrun, hr, S, hT, hS⟩ := append_rw (P := Try.prog) (ys := [g]) 28 28 i _ 8 Try.underlying28 hi hz hsz hby (by omega) rfl inI_one h.ri (by simpa using hl) (some ⟨a, 0, none⟩) 1 (by simp) hlv
  have other : ∀ (k : Nat) (o : Obj), w.heap[k]? = some o → (∀ cur, o ≠ Obj.cells cur 3) → w'.heap[k]? = w.heap[k]? := fun k o hk hn => hT.block k (Array.getElem?_eq_some_iff.1 hk).1 fun hm => by
    obtain ⟨_, cur, hc⟩ := hS k hm
    rw [hk] at hc
    injection hc with hc
    exact hn cur hc
  exact ⟨v', w', hrun, ⟨h.b.trans (hT.below h.b.size fun b hb => (hS b hb).1), h.l, (other F _ h.f (fun cur e => by simp at e)).trans h.f, h.r.keep fun k cur hk hc => ⟨hk, other k _ hc (fun cur e => by simp at e)⟩, hr.keep fun b cur hb _ => ⟨by
      rcases hb with hb | hb
      · exact hb
      · exact Nat.le_trans h.b.size hb, rfl⟩,
    (other A _ h.pa (fun cur e => by simp at e)).trans h.pa, (other B _ h.pb (fun cur e => by simp at e)).trans h.pb, (other C _ h.pc (fun cur e => by simp at e)).trans h.pc, h.ne, h.wa⟩, fun k o hk hn => (other k o hk hn).trans hk⟩
/-- Both rows are stored in F. -/
theorem GS.store (h : GS W F x1 x2 v1 v2 ps us A B C p q d w) : GS W F v1 v2 v1 v2 ps us A B C p q d ((w.setCell ⟨F, 0, none⟩ v1).setCell ⟨F, 1, none⟩ v2) := by
  have h0 := heap_setCell_same w F 0 _ 30 v1 h.f
  have h1 := heap_setCell_same _ F 1 _ 30 v2 h0
  have other : ∀ (k : Nat) (o : Obj), w.heap[k]? = some o → (∀ cur, o ≠ Obj.cells cur 30) → ((w.setCell ⟨F, 0, none⟩ v1).setCell ⟨F, 1, none⟩ v2).heap[k]? = w.heap[k]? := fun k o hk hn => by
    have hne : k ≠ F := fun e => by rw [e, h.f] at hk; injection hk with hk; exact hn _ hk.symm
    exact (heap_setCell_other _ _ _ _ hne).trans (heap_setCell_other _ _ _ _ hne)
  exact ⟨(h.b.setCell (p := ⟨F, 0, none⟩) h.l v1).setCell (p := ⟨F, 1, none⟩) h.l v2, h.l, h1, h.r.keep fun k cur hk hc => ⟨hk, other k _ hc (fun cur e => by simp at e)⟩, h.ri.keep fun k cur hk hc => ⟨hk, other k _ hc (fun cur e => by simp at e)⟩,
    (other A _ h.pa (fun cur e => by simp at e)).trans h.pa, (other B _ h.pb (fun cur e => by simp at e)).trans h.pb, (other C _ h.pc (fun cur e => by simp at e)).trans h.pc, h.ne, h.wa⟩
theorem GS.cells (h : GS W F x1 x2 v1 v2 ps us A B C p q d w) : w.cell? ⟨F, 0, none⟩ = some x1 ∧ w.cell? ⟨F, 1, none⟩ = some x2 ∧ w.frozen? ⟨F, 0, none⟩ = false ∧ w.frozen? ⟨F, 1, none⟩ = false :=
  ⟨by rw [cell_of_row _ _ 0 _ 30 (0, 0) h.f]; rfl, by rw [cell_of_row _ _ 1 _ 30 (0, 0) h.f]; rfl, frozen_of_row _ _ 0 _ 30 h.f, frozen_of_row _ _ 1 _ 30 h.f⟩
theorem GS.call (h : GS W F x1 x2 v1 v2 ps us A B C p q d w) : w.cell? ⟨C, 0, none⟩ = some (.int .i64 d.k) ∧ w.cell? ⟨C, 1, none⟩ = some (.int .i64 d.a) ∧ w.cell? ⟨C, 2, none⟩ = some (.int .i64 d.n) :=
  ⟨by rw [cell_of_row _ _ 0 _ 32 (0, 0) h.pc]; rfl, by rw [cell_of_row _ _ 1 _ 32 (0, 0) h.pc]; rfl, by rw [cell_of_row _ _ 2 _ 32 (0, 0) h.pc]; rfl⟩
end Go.Proofs.Ytmkjdghjaeolcaa
