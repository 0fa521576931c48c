/- Tables of objects in memory; what is read of them. -/
import Derived.Test.YtodionedjokdmaaOa
import Derived.Test.YtodionedjokdmaaVm
set_option linter.unusedVariables false
set_option linter.unusedSimpArgs false
namespace Go.Proofs.Ytodionedjokdmaa
open Go.RowKit
set_option linter.unusedVariables false
set_option linter.unusedSimpArgs false
def inU (x : Nat) : Value := .int .u64 (x : Int)
/-- An object: its block, kind, home, kids, its thread's block and core. -/
structure Ob where
  b : Nat
  kd : Int
  hm : Nat
  ks : List Nat
  t : Option Nat
  on : Int
def TH (w : World) (b : Nat) (on : Int) : Prop := ∃ cs : Array Value, w.heap[b]? = some (Obj.cells cs 74) ∧ cs[21]? = some (.int .i64 on)
/-- An object of name n in memory. -/
def OB (own : Nat → Prop) (w : World) (n : Nat) (o : Ob) : Prop :=
  own o.b ∧ (U64 n ∧ U64 o.hm ∧ ∀ k ∈ o.ks, U64 k) ∧ (∃ cs : Array Value, w.heap[o.b]? = some (Obj.cells cs 60) ∧ cs.size = 291 ∧ cs[2]? = some (inU n) ∧ cs[3]? = some (.int .i64 o.kd) ∧ cs[6]? = some (inU o.hm) ∧ cs[19]? = some (vP o.t) ∧
    ∃ v, cs[15]? = some v ∧ RW own 28 inU w v o.ks) ∧ ∀ b, o.t = some b → own b ∧ TH w b o.on
section
variable {w w' W : World} {own own' : Nat → Prop} {n : Nat} {o : Ob} {v : Value}
theorem OB.lt (h : OB own w n o) : o.b < w.heap.size := by
  obtain ⟨_, _, ⟨cs, h1, _⟩, _⟩ := h
  exact (Array.getElem?_eq_some_iff.1 h1).1
theorem TH.lt {b : Nat} {on : Int} (h : TH w b on) : b < w.heap.size := by
  obtain ⟨cs, h1, _⟩ := h
  exact (Array.getElem?_eq_some_iff.1 h1).1
theorem OB.keepc (h : OB own w n o) (hk : ∀ b cur u, own b → u ≠ 35 → w.heap[b]? = some (Obj.cells cur u) → own' b ∧ w'.heap[b]? = w.heap[b]?) : OB own' w' n o := by
  obtain ⟨h1, h2, ⟨cs, h3, h4, h5, h6, h7, h8, v, h9, h10⟩, h11⟩ := h
  have e1 := hk _ _ _ h1 (by decide) h3
  refine ⟨e1.1, h2, ⟨cs, e1.2.trans h3, h4, h5, h6, h7, h8, v, h9, h10.keep fun b cur hb hc => hk b _ _ hb (by decide) hc⟩, fun b hb => ?_⟩
  obtain ⟨k1, cs, k4, k5⟩ := h11 b hb
  have e2 := hk _ _ _ k1 (by decide) k4
  exact ⟨e2.1, cs, e2.2.trans k4, k5⟩
theorem OB.keep (h : OB own w n o) (hk : ∀ b, own b → b < w.heap.size → own' b ∧ w'.heap[b]? = w.heap[b]?) : OB own' w' n o := h.keepc fun b cur u hb _ hc => hk b hb (Array.getElem?_eq_some_iff.1 hc).1
theorem OB.below (h : OB own w n o) (hb : Below w.heap.size w w') : OB own w' n o := h.keep fun b hb' hl => ⟨hb', hb.block b hl⟩
theorem OB.cells (h : OB own w n o) : w.cell? ⟨o.b, 2, none⟩ = some (inU n) ∧ w.cell? ⟨o.b, 3, none⟩ = some (.int .i64 o.kd) ∧ w.cell? ⟨o.b, 6, none⟩ = some (inU o.hm) ∧ w.cell? ⟨o.b, 19, none⟩ = some (vP o.t) ∧ ∃ v, w.cell? ⟨o.b, 15, none⟩ = some v ∧ RW own 28 inU w v o.ks := by
  obtain ⟨h1, h2, ⟨cs, h3, h4, h5, h6, h7, h8, v, h9, h10⟩, h11⟩ := h
  exact ⟨by rw [cell_of_row _ _ _ _ _ (0, 0) h3]; exact h5, by rw [cell_of_row _ _ _ _ _ (0, 0) h3]; exact h6, by rw [cell_of_row _ _ _ _ _ (0, 0) h3]; exact h7, by rw [cell_of_row _ _ _ _ _ (0, 0) h3]; exact h8, v, by rw [cell_of_row _ _ _ _ _ (0, 0) h3]; exact h9, h10⟩
theorem OB.frozen (h : OB own w n o) (i : Nat) : w.frozen? ⟨o.b, i, none⟩ = false := by
  obtain ⟨h1, h2, ⟨cs, h3, _⟩, _⟩ := h
  exact frozen_of_row _ _ _ _ _ h3
theorem OB.name {n' : Nat} {o' : Ob} (h : OB own w n o) (h' : OB own' w n' o') (e : o.b = o'.b) : n = n' := by
  have h1 := h.cells.1
  have h2 := h'.cells.1
  rw [e, h2] at h1
  unfold inU at h1
  injection h1 with h1
  injection h1 with _ h1
  omega
/-- Kids are stored. -/
theorem OB.setk (h : OB own w n o) {ks : List Nat} (hk : ∀ k ∈ ks, U64 k) (hv : RW own 28 inU w v ks) : OB own (w.setCell ⟨o.b, 15, none⟩ v) n { o with ks := ks } := by
  obtain ⟨h1, h2, ⟨cs, h3, h4, h5, h6, h7, h8, v0, h9, h10⟩, h11⟩ := h
  have hne : ∀ b cur, w.heap[b]? = some (Obj.cells cur 28) → b ≠ o.b := fun b cur hb e => by
    rw [e, h3] at hb
    injection hb with hb
    injection hb with _ hb
    cases hb
  refine ⟨h1, ⟨h2.1, h2.2.1, hk⟩, ⟨_, heap_setCell_same w o.b 15 cs 60 v h3, by rw [Array.size_setIfInBounds]; exact h4, by rw [Array.getElem?_setIfInBounds_ne (by omega)]; exact h5, by rw [Array.getElem?_setIfInBounds_ne (by omega)]; exact h6,
    by rw [Array.getElem?_setIfInBounds_ne (by omega)]; exact h7, by rw [Array.getElem?_setIfInBounds_ne (by omega)]; exact h8, v, by rw [Array.getElem?_setIfInBounds_self_of_lt (by omega)], hv.keep fun b cur hb hc => ⟨hb, heap_setCell_other _ _ _ _ (hne b cur hc)⟩⟩, fun b hb => ?_⟩
  obtain ⟨k1, cs', k2, k3⟩ := h11 b hb
  refine ⟨k1, cs', (heap_setCell_other _ _ _ _ fun e => ?_).trans k2, k3⟩
  rw [e, h3] at k2
  injection k2 with k2
  injection k2 with _ k2
  cases k2
/-- Another object's kids are stored. -/
theorem OB.other (h : OB own w n o) {b : Nat} (hb : o.b ≠ b) {cs : Array Value} (hc : w.heap[b]? = some (Obj.cells cs 60)) : OB own (w.setCell ⟨b, 15, none⟩ v) n o := by
  obtain ⟨h1, h2, ⟨cs', h3, h4, h5, h6, h7, h8, v0, h9, h10⟩, h11⟩ := h
  have hne : ∀ k cur, w.heap[k]? = some (Obj.cells cur 28) → k ≠ b := fun k cur hk e => by
    rw [e, hc] at hk
    injection hk with hk
    injection hk with _ hk
    cases hk
  refine ⟨h1, h2, ⟨_, (heap_setCell_other _ _ _ _ hb).trans h3, h4, h5, h6, h7, h8, v0, h9, h10.keep fun k cur hk hc' => ⟨hk, heap_setCell_other _ _ _ _ (hne k cur hc')⟩⟩, fun k hk => ?_⟩
  obtain ⟨k1, cs', k2, k3⟩ := h11 k hk
  refine ⟨k1, cs', (heap_setCell_other _ _ _ _ fun e => ?_).trans k2, k3⟩
  rw [e, hc] at k2
  injection k2 with k2
  injection k2 with _ k2
  cases k2
end
def own_ (W : World) (T : List Nat) (b : Nat) : Prop := W.heap.size ≤ b ∧ b ∉ T
def mpG (G : Nat → Option Ob) : Nat → Option (Option Nat) := fun n => (G n).map fun o => some o.b
/-- A table of the law's own since W, beside the blocks T: in block t, its map in M, the objects' names in the order in which they came. -/
structure TS (W : World) (T : List Nat) (t : Nat) (M : Option Nat) (ns : List Nat) (G : Nat → Option Ob) (w : World) : Prop where
  b : Below W.heap.size W w
  tl : ∀ b ∈ T, b < w.heap.size
  tb : w.heap[t]? = some (Obj.cells #[.map M] 92)
  ow : own_ W T t
  mp : (M = none ∧ ns = [] ∧ ∀ n, G n = none) ∨ ∃ m, M = some m ∧ own_ W T m ∧ MapG rdP w m ns.length ns (mpG G)
  ob : ∀ n o, G n = some o → OB (own_ W T) w n o
/-- What T holds reads as before. -/
def Same (T : List Nat) (w w' : World) : Prop := ∀ b ∈ T, w'.heap[b]? = w.heap[b]?
theorem Same.refl (T : List Nat) (w : World) : Same T w w := fun _ _ => rfl
theorem Same.trans {T : List Nat} {a b c : World} (h : Same T a b) (k : Same T b c) : Same T a c := fun x hx => (k x hx).trans (h x hx)
theorem Same.less {T T' : List Nat} {a b : World} (h : Same T a b) (k : ∀ x ∈ T', x ∈ T) : Same T' a b := fun x hx => h x (k x hx)
section
variable {W w w' : World} {T T' : List Nat} {t : Nat} {M : Option Nat} {ns : List Nat} {G : Nat → Option Ob}
theorem TS.mem (h : TS W T t M ns G w) (n : Nat) : n ∈ ns ↔ (G n).isSome = true := by
  rcases h.mp with ⟨_, rfl, h2⟩ | ⟨m, _, _, h2⟩
  · rw [h2 n]; simp
  · rw [← h2.2.1 n]; unfold mpG; cases G n <;> simp
theorem TS.nodup (h : TS W T t M ns G w) : ns.Nodup := by
  rcases h.mp with ⟨_, rfl, h2⟩ | ⟨m, _, _, h2⟩
  · exact List.nodup_nil
  · exact h2.1
theorem TS.lt (h : TS W T t M ns G w) : t < w.heap.size := (Array.getElem?_eq_some_iff.1 h.tb).1
theorem TS.keep (h : TS W T t M ns G w) (hb : Below W.heap.size W w') (hs : ∀ b, b < w.heap.size → W.heap.size ≤ b → b ∉ T → w'.heap[b]? = w.heap[b]?) (hT : ∀ b ∈ T', (b ∈ T ∨ w.heap.size ≤ b) ∧ b < w'.heap.size) : TS W T' t M ns G w' := by
  have ho : ∀ b, own_ W T b → b < w.heap.size → own_ W T' b ∧ w'.heap[b]? = w.heap[b]? := fun b ⟨h1, h2⟩ hl => ⟨⟨h1, fun hm => by
    rcases (hT b hm).1 with e | e
    · exact h2 e
    · omega⟩, hs b hl h1 h2⟩
  refine ⟨hb, fun b hb => (hT b hb).2, (ho _ h.ow h.lt).2.trans h.tb, (ho _ h.ow h.lt).1, ?_, fun n o hn => (h.ob n o hn).keep ho⟩
  rcases h.mp with h1 | ⟨m, h1, h2, h3⟩
  · exact .inl h1
  · exact .inr ⟨m, h1, (ho _ h2 h3.lt).1, h3.same (ho _ h2 h3.lt).2⟩
theorem TS.below (h : TS W T t M ns G w) (hb : Below w.heap.size w w') : TS W T t M ns G w' :=
  h.keep (h.b.trans (hb.mono h.b.size)) (fun b hl _ _ => hb.block b hl) fun b hm => ⟨.inl hm, Nat.lt_of_lt_of_le (h.tl b hm) hb.size⟩
theorem TS.drew (h : TS W T t M ns G w) : TS W T t M ns G w.drew := h.below (Below.refl _ _).drew
theorem TS.drewN (h : TS W T t M ns G w) (q : Nat) : TS W T t M ns G (w.drewN q) := h.below ⟨rfl, rfl, rfl, Nat.le_refl _, fun _ _ => rfl⟩
/-- T has turned: the table hasn't. -/
theorem TS.turn (h : TS W T t M ns G w) (hb : Turn T w w') (hT : ∀ b ∈ T, W.heap.size ≤ b) : TS W T t M ns G w' :=
  h.keep (h.b.trans (hb.below h.b.size hT)) (fun b hl _ hn => hb.block b hl hn) fun b hm => ⟨.inl hm, Nat.lt_of_lt_of_le (h.tl b hm) hb.size⟩
theorem TS.more (h : TS W T t M ns G w) (hb : Below w.heap.size w w') (hT : ∀ b ∈ T', (b ∈ T ∨ w.heap.size ≤ b) ∧ b < w'.heap.size) : TS W T' t M ns G w' :=
  h.keep (h.b.trans (hb.mono h.b.size)) (fun b hl _ _ => hb.block b hl) hT
theorem TS.alloc (h : TS W T t M ns G w) (o : Obj) : TS W (w.heap.size :: T) t M ns G (w.alloc o) :=
  h.more (below_alloc1 w o) fun b hm => by
    rcases List.mem_cons.1 hm with hb | hb
    · exact ⟨.inr (by omega), by rw [hb]; simp⟩
    · exact ⟨.inl hb, by have := h.tl b hb; simp; omega⟩
theorem TS.less (h : TS W T t M ns G w) (hT : ∀ b ∈ T', b ∈ T) : TS W T' t M ns G w :=
  h.more (Below.refl _ _) fun b hm => ⟨.inl (hT b hm), h.tl b (hT b hm)⟩
theorem TS.set (h : TS W T t M ns G w) (B i : Nat) (v : Value) (hB : B ∈ T) (hW : W.heap.size ≤ B) : TS W T t M ns G (w.setCell ⟨B, i, none⟩ v) :=
  h.keep (h.b.setCell (p := ⟨B, i, none⟩) hW v) (fun b hl _ hn => Below.heap_setCell _ _ _ _ (fun e => hn (by rw [e]; exact hB))) fun b hm => ⟨.inl hm, by have := h.tl b hm; simp; omega⟩
theorem TS.same (h : TS W T t M ns G w) (hb : Below w.heap.size w w') : Same T w w' := fun b hm => hb.block b (h.tl b hm)
theorem TS.cell (h : TS W T t M ns G w) : w.cell? ⟨t, 0, none⟩ = some (.map M) := by rw [cell_of_row _ _ _ _ _ (0, 0) h.tb]; rfl
theorem TS.frozen (h : TS W T t M ns G w) : w.frozen? ⟨t, 0, none⟩ = false := frozen_of_row _ _ _ _ _ h.tb
/-- The map turns. -/
theorem TS.map {m : Nat} {ns' : List Nat} {G' : Nat → Option Ob} (h : TS W T t (some m) ns G w) (ht : Turn [m] w w') (hm : MapG rdP w' m ns'.length ns' (mpG G')) (hob : ∀ k o, G' k = some o → OB (own_ W T) w k o) :
    TS W T t (some m) ns' G' w' ∧ Same T w w' := by
  obtain ⟨m', em, ho, hM⟩ : ∃ m', some m = some m' ∧ own_ W T m' ∧ MapG rdP w m' ns.length ns (mpG G) := by
    rcases h.mp with ⟨e, _⟩ | h
    · cases e
    · exact h
  injection em with em
  subst em
  have hne : ∀ b cur u, w.heap[b]? = some (Obj.cells cur u) → w'.heap[b]? = w.heap[b]? := fun b cur u hb => ht.block b (Array.getElem?_eq_some_iff.1 hb).1 fun hm => by
    rw [List.mem_singleton.1 hm] at hb
    exact hM.not_row hb
  have hs : Same T w w' := fun b hb => ht.block b (h.tl b hb) fun hm => ho.2 (by rw [← List.mem_singleton.1 hm]; exact hb)
  exact ⟨⟨h.b.trans (ht.below h.b.size fun b hb => by rw [List.mem_singleton.1 hb]; exact ho.1), fun b hb => Nat.lt_of_lt_of_le (h.tl b hb) ht.size, (hne _ _ _ h.tb).trans h.tb, h.ow, .inr ⟨m, rfl, ho, hm⟩, fun k o hk => (hob k o hk).keepc fun b cur u hb _ hc => ⟨hb, hne b cur u hc⟩⟩, hs⟩
theorem mpG_updk {hm : Nat} {ho : Ob} (e : G hm = some ho) (ks : List Nat) : mpG (updN G hm (some { ho with ks := ks })) = mpG G := by
  funext k
  unfold mpG
  by_cases hk : k = hm
  · subst hk; rw [updN_same, e]; rfl
  · rw [updN_other _ _ hk]
/-- A home's kids are stored. -/
theorem TS.setk {hm : Nat} {ho : Ob} {v : Value} {ks : List Nat} (h : TS W T t M ns G w) (e : G hm = some ho) (hk : ∀ k ∈ ks, U64 k) (hv : RW (own_ W T) 28 inU w v ks) :
    TS W T t M ns (updN G hm (some { ho with ks := ks })) (w.setCell ⟨ho.b, 15, none⟩ v) ∧ Same T w (w.setCell ⟨ho.b, 15, none⟩ v) ∧ ∀ k o, OB (own_ W T) w k o → k ≠ hm → OB (own_ W T) (w.setCell ⟨ho.b, 15, none⟩ v) k o := by
  have hoh := h.ob hm ho e
  have hown : own_ W T ho.b := hoh.1
  obtain ⟨cs, hcs⟩ : ∃ cs, w.heap[ho.b]? = some (Obj.cells cs 60) := by
    obtain ⟨_, _, ⟨cs, h1, _⟩, _⟩ := hoh; exact ⟨cs, h1⟩
  have oth : ∀ k o, OB (own_ W T) w k o → k ≠ hm → OB (own_ W T) (w.setCell ⟨ho.b, 15, none⟩ v) k o := fun k o hko hne => hko.other (fun eb => hne (hko.name hoh eb)) hcs
  refine ⟨⟨h.b.setCell (p := ⟨ho.b, 15, none⟩) hown.1 v, fun b hb => by have := h.tl b hb; simpa using this, ?_, h.ow, ?_, fun k o hko => ?_⟩, fun b hb => heap_setCell_other _ _ _ _ fun eb => hown.2 (by have e2 : b = ho.b := eb; rw [← e2]; exact hb), oth⟩
  · refine (heap_setCell_other _ _ _ _ fun eb => ?_).trans h.tb
    have := h.tb
    rw [eb, hcs] at this
    injection this with this
    injection this with _ this
    cases this
  · rcases h.mp with ⟨h1, h2, h3⟩ | ⟨m, h1, h2, h3⟩
    · rw [h3 hm] at e; cases e
    · refine .inr ⟨m, h1, h2, ?_⟩
      rw [mpG_updk e]
      exact h3.same (heap_setCell_other _ _ _ _ fun eb => h3.not_row (by rw [eb]; exact hcs))
  · by_cases hk2 : k = hm
    · subst hk2
      rw [updN_same] at hko
      injection hko with hko
      subst hko
      exact hoh.setk hk hv
    · rw [updN_other _ _ hk2] at hko
      exact oth k o (h.ob k o hko) hk2
/-- Get. -/
def pb (o : Option Ob) : Value := vP (o.map Ob.b)
theorem pb_mpG (G : Nat → Option Ob) (n : Nat) : vP ((mpG G n).getD none) = pb (G n) := by unfold mpG pb; cases G n <;> rfl
theorem look_nil (n : Int) (w : World) : (Instr.lookup 90 (.map none) (.int .u64 n) false).run Try.prog w = .ok (.pointer none) w := by kernel_rfl
theorem get_any {n : Nat} (h : TS W T t M ns G w) (hn : U64 n) : Calls Try.prog 13 #[.pointer (some ⟨t, 0, none⟩), .int .u64 (n : Int)] w fun e w' => e = .returned (pb (G n)) ∧ w' = w := by
  have c0 := h.cell
  obtain ⟨v, ev⟩ : ∃ v, pb (G n) = v := ⟨_, rfl⟩
  rcases h.mp with ⟨rfl, _, h2⟩ | ⟨m, rfl, _, h3⟩
  · have e0 : v = .pointer none := by rw [← ev, h2 n]; rfl
    rw [ev]
    have hl := look_nil n w
    clear h h2 ev hn
    subst e0
    go_enter Try.func13, Try.ntmps13
    go_wp2_with fail
    go_ret
    exact ⟨rfl, rfl⟩
  · have hl := h3.at_ Try.underlying90 rd_P (zeroP w) hn
    rw [pb_mpG, ev] at hl
    rw [ev]
    clear h h3 ev
    go_enter Try.func13, Try.ntmps13
    go_wp2_with fail
    go_ret
    exact ⟨rfl, rfl⟩
end
end Go.Proofs.Ytodionedjokdmaa
