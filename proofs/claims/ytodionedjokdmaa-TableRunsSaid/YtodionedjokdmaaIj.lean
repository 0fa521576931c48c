/- What TableRuns keeps of the table: a map of calls, and the order. -/
import Derived.Test.YtodionedjokdmaaIi
set_option linter.unusedVariables false
set_option linter.unusedSimpArgs false
namespace Go.Proofs.Ytodionedjokdmaa
open Go.RowKit Go.Maps
set_option linter.unusedVariables false
set_option linter.unusedSimpArgs false
structure CV where
  k : Int
  n : Int
  h : Int
  w : Int
  on : Int
def vC (c : CV) : Value := .agg #[.int .i64 c.k, .int .u64 c.n, .int .u64 c.h, .int .i64 c.w, .int .i64 c.on]
def rdCl : List Value → Option (DataW CV × List MemPlace)
  | [.int .i64 k, .int .u64 n, .int .u64 h, .int .i64 w, .int .i64 o] => some (.held ⟨k, n, h, w, o⟩, [])
  | _ => none
def rdC (v : Value) : Option (DataW CV × List MemPlace) :=
  match v with
  | .agg cs => rdCl cs.toList
  | _ => none
theorem rd_C : Rd vC rdC := ⟨fun x => rfl, fun v y h => by
  unfold rdC at h
  split at h
  · rename_i cs
    unfold rdCl at h
    split at h
    · rename_i k n h' w o e
      injection h with h
      refine ⟨⟨k, n, h', w, o⟩, ?_, h.symm⟩
      have : cs = #[.int .i64 k, .int .u64 n, .int .u64 h', .int .i64 w, .int .i64 o] := by rw [← Array.toList_inj, e]
      rw [this]; rfl
    · cases h
  · cases h⟩
def c0 : CV := ⟨0, 0, 0, 0, 0⟩
theorem zeroC (w : World) : (zeroValue 30).run Try.prog w = .ok (vC c0) w := by kernel_rfl
def vB (b : Bool) : Value := .bool b
def rdB (v : Value) : Option (DataW Bool × List MemPlace) :=
  match v with
  | .bool b => some (.held b, [])
  | _ => none
theorem rd_B : Rd vB rdB := ⟨fun x => rfl, fun v y h => by
  unfold rdB at h
  split at h
  · rename_i b; injection h with h; exact ⟨b, rfl, h.symm⟩
  · cases h⟩
theorem zeroB (w : World) : (zeroValue 4).run Try.prog w = .ok (vB false) w := by kernel_rfl
/-- The law's own part. -/
structure LP (T : List Nat) (mB BO : Nat) (os : List Nat) (gm : Nat → Option CV) (v : Value) (w : World) : Prop where
  mp : MapG rdC w mB os.length os gm
  bx : w.heap[BO]? = some (Obj.cells #[v] 27)
  rw : RW (· ∈ T) 28 inU w v os
  mt : mB ∈ T
  bt : BO ∈ T
/-- What the map tells. -/
def LM (G : GM) (gm : Nat → Option CV) : Prop := (∀ x, (gm x).isSome = (G x).isSome) ∧ ∀ x c o, gm x = some c → G x = some o → c.k = 1 ∧ c.h = (o.hm : Int) ∧ c.w = o.kd
structure PZ (W : World) (T : List Nat) (t mB BO : Nat) (os : List Nat) (G : GM) (gm : Nat → Option CV) (v : Value) (w : World) : Prop where
  ts : ∃ M, TS W T t M os G w
  lp : LP T mB BO os gm v w
  wt : ∀ b ∈ T, W.heap.size ≤ b
  lm : LM G gm
  tr : ∃ r, Tr r os G
section
variable {W w w' : World} {T T' : List Nat} {t mB BO : Nat} {os : List Nat} {G : GM} {gm : Nat → Option CV} {v : Value}
theorem LP.same (h : LP T mB BO os gm v w) (hs : Same T w w') : LP T mB BO os gm v w' :=
  ⟨h.mp.same (hs _ h.mt), (hs _ h.bt).trans h.bx, h.rw.keep fun b cur hb _ => ⟨hb, hs b hb⟩, h.mt, h.bt⟩
theorem LP.mono (h : LP T mB BO os gm v w) (hs : ∀ b ∈ T, b ∈ T') : LP T' mB BO os gm v w :=
  ⟨h.mp, h.bx, h.rw.mono hs, hs _ h.mt, hs _ h.bt⟩
theorem LP.cell (h : LP T mB BO os gm v w) : w.cell? ⟨BO, 0, none⟩ = some v := by rw [cell_of_row _ _ 0 _ _ (0, 0) h.bx]; rfl
theorem LP.frozen (h : LP T mB BO os gm v w) : w.frozen? ⟨BO, 0, none⟩ = false := frozen_of_row _ _ _ _ _ h.bx
theorem PZ.below (h : PZ W T t mB BO os G gm v w) (hb : Below w.heap.size w w') : PZ W T t mB BO os G gm v w' := by
  obtain ⟨M, hT⟩ := h.ts
  exact ⟨⟨M, hT.below hb⟩, h.lp.same (hT.same hb), h.wt, h.lm, h.tr⟩
theorem PZ.size (h : PZ W T t mB BO os G gm v w) : W.heap.size ≤ w.heap.size := by obtain ⟨M, hT⟩ := h.ts; exact hT.b.size
theorem PZ.tl (h : PZ W T t mB BO os G gm v w) : ∀ b ∈ T, b < w.heap.size := by obtain ⟨M, hT⟩ := h.ts; exact hT.tl
/-- New blocks are the law's. -/
theorem PZ.alloc (h : PZ W T t mB BO os G gm v w) (o : Obj) : PZ W (w.heap.size :: T) t mB BO os G gm v (w.alloc o) := by
  obtain ⟨M, hT⟩ := h.ts
  exact ⟨⟨M, hT.alloc o⟩, (h.lp.same (hT.same (below_alloc1 w o))).mono fun b hb => List.mem_cons_of_mem _ hb, fun b hb => by
    rcases List.mem_cons.1 hb with rfl | hb
    · exact hT.b.size
    · exact h.wt b hb, h.lm, h.tr⟩
/-- What m tells of a name. -/
theorem PZ.look (h : PZ W T t mB BO os G gm v w) {x : Nat} (hx : U64 x) : (Instr.lookup 26 (.map (some mB)) (.int .u64 (x : Int)) false).run Try.prog w = .ok (vC ((gm x).getD c0)) w := h.lp.mp.at_ Try.underlying26 rd_C (zeroC w) hx
theorem LM.none (h : LM G gm) {x : Nat} (hx : G x = none) : gm x = none := by
  have := h.1 x
  rw [hx] at this
  cases hg : gm x with
  | none => rfl
  | some _ => rw [hg] at this; cases this
theorem LM.some (h : LM G gm) {x : Nat} {o : Ob} (hx : G x = some o) : ∃ c, gm x = some c ∧ c.k = 1 ∧ c.h = (o.hm : Int) ∧ c.w = o.kd := by
  have := h.1 x
  rw [hx] at this
  obtain ⟨c, hc⟩ := Option.isSome_iff_exists.1 this
  exact ⟨c, hc, h.2 x c o hc hx⟩
theorem eqC1 (n h w on : Int) (W : World) : (binOp .eql 30 (vC ⟨1, n, h, w, on⟩) (vC c0)).run Try.prog W = .ok (.bool false) W := by
  kernel_rfl
theorem eqC0 (W : World) : (binOp .eql 30 (vC c0) (vC c0)).run Try.prog W = .ok (.bool true) W := by
  kernel_rfl
/-- It comes into the law's map. -/
theorem PZ.put {M' : Option Nat} {n : Nat} {o : Ob} {c : CV} (h : PZ W T t mB BO os G gm v w) (hts : TS W T t M' (os ++ [n]) (addG G n o) w') (hs : Same T w w') (hm : may G n o = true) (hks : o.ks = []) (hn : n ≤ 15) (hh : o.hm ≤ 15) (hc : c.k = 1 ∧ c.h = (o.hm : Int) ∧ c.w = o.kd) :
    ∃ w2, (Instr.mapUpdate 26 (.map (some mB)) (.int .u64 (n : Int)) (vC c)).run Try.prog w' = .ok () w2 ∧ Turn [mB] w' w2 ∧ TS W T t M' (os ++ [n]) (addG G n o) w2 ∧ MapG rdC w2 mB (os ++ [n]).length (os ++ [n]) (updN gm n (some c)) ∧
      w2.heap[BO]? = some (Obj.cells #[v] 27) ∧ RW (· ∈ T) 28 inU w2 v os ∧ LM (addG G n o) (updN gm n (some c)) ∧ ∃ r, Tr r (os ++ [n]) (addG G n o) := by
  have lp := h.lp.same hs
  obtain ⟨h0, hG, _⟩ := may_spec hm
  obtain ⟨r, htr⟩ := h.tr
  have hlen := htr.len
  have hno : n ∉ os := fun hx => by have := (htr.mem n).1 hx; rw [hG] at this; cases this
  obtain ⟨w2, hrun, hM2, ht2⟩ := lp.mp.store Try.underlying26 rd_C (Nat.lt_of_le_of_lt hlen (by decide)) (u64_of (n := n) (by omega)) c
  rw [if_neg hno] at hM2
  refine ⟨w2, hrun, ht2, hts.turn (ht2.mono fun b hb => by rw [List.mem_singleton.1 hb]; exact lp.mt) h.wt, hM2.tight, ?_, ?_, ?_, htr.add hm hks hn hh⟩
  · refine (ht2.block BO (Array.getElem?_eq_some_iff.1 lp.bx).1 fun hb => ?_).trans lp.bx
    have hx := lp.bx
    rw [List.mem_singleton.1 hb] at hx
    exact lp.mp.not_row hx
  · refine lp.rw.keep fun b cur hb hcb => ⟨hb, ht2.block b (Array.getElem?_eq_some_iff.1 hcb).1 fun hb2 => ?_⟩
    rw [List.mem_singleton.1 hb2] at hcb
    exact lp.mp.not_row hcb
  · refine ⟨fun x => ?_, fun x c' o' hx ho => ?_⟩
    · by_cases e : x = n
      · subst e; rw [updN_same, addG_n]; rfl
      · rw [updN_other _ _ e, h.lm.1 x]
        have e1 := addG_hm (G := G) (n := n) (o := o) x
        rw [if_neg e] at e1
        unfold hmOf at e1
        have e2 := congrArg Option.isSome e1
        simpa using e2.symm
    · by_cases e : x = n
      · subst e
        rw [updN_same] at hx
        rw [addG_n] at ho
        injection hx with hx
        injection ho with ho
        subst hx ho
        exact hc
      · rw [updN_other _ _ e] at hx
        obtain ⟨o0, k1, k2, k3, _⟩ := addG_get e ho
        have := h.lm.2 x c' o0 hx k1
        rw [k2, k3]; exact this
/-- .. and into the order. -/
theorem PZ.snoc {M' : Option Nat} {n : Nat} {G' : GM} {gm' : Nat → Option CV} {w2 : World} (ty : TypeId) (hW : ∀ b ∈ T, W.heap.size ≤ b) (hts : TS W T t M' (os ++ [n]) G' w2) (hM : MapG rdC w2 mB (os ++ [n]).length (os ++ [n]) gm') (hbx : w2.heap[BO]? = some (Obj.cells #[v] 27)) (hrw : RW (· ∈ T) 28 inU w2 v os) (hmt : mB ∈ T) (hbt : BO ∈ T) (hlm : LM G' gm') (htr : ∃ r, Tr r (os ++ [n]) G') :
    ∃ A' l' c' w3, (Builtin.append_ #[27, 27] ty #[v, .slice (some ⟨w2.heap.size, 0, none⟩) 1 1]).run Try.prog (w2.alloc (Obj.cells #[.int .u64 (n : Int)] 28)) = .ok (.slice A' l' c') w3 ∧ w3.heap[BO]? = some (Obj.cells #[v] 27) ∧ (∀ (b : Nat) (cur : Array Value) (u : TypeId), w2.heap[b]? = some (Obj.cells cur u) → u ≠ 28 → w3.heap[b]? = w2.heap[b]?) ∧
      ∃ T', (∀ b ∈ T, b ∈ T') ∧ PZ W T' t mB BO (os ++ [n]) G' gm' (.slice A' l' c') (w3.setCell ⟨BO, 0, none⟩ (.slice A' l' c')) := by
  obtain ⟨r, htr⟩ := htr
  have hlen := htr.len
  rw [List.length_append] at hlen
  have b1 := below_alloc1 w2 (Obj.cells #[.int .u64 (n : Int)] 28)
  have hq := heap_alloc_new w2 (Obj.cells #[.int .u64 (n : Int)] 28)
  obtain ⟨v', w3, hrun, hv, S, ht, hS⟩ := append_u ty (hrw.below b1) (ys := [n]) (by simp; omega) (some ⟨w2.heap.size, 0, none⟩) 1 1 rfl (by simp) (lr_one hq)
  obtain ⟨A', c', ev, _⟩ := hv.form
  subst ev
  have hsz : w2.heap.size ≤ w3.heap.size := Nat.le_trans b1.size ht.size
  have tt : Turn T w2 w3 := ((Turn.of_below (S := T) b1).trans (ht.mono fun b hb => (hS b hb).1) fun b hb => .inl hb)
  have hrow : ∀ b cur u, w2.heap[b]? = some (Obj.cells cur u) → u ≠ 28 → w3.heap[b]? = w2.heap[b]? := fun b cur u hb hu => by
    have hbl := (Array.getElem?_eq_some_iff.1 hb).1
    refine (ht.block b (Nat.lt_of_lt_of_le hbl b1.size) fun hm => ?_).trans (b1.block b hbl)
    obtain ⟨_, cur', hc⟩ := hS b hm
    rw [(b1.block b hbl).trans hb] at hc
    injection hc with hc
    injection hc with _ hc
    exact hu hc
  have hB3 : w3.heap[BO]? = some (Obj.cells #[v] 27) := (hrow BO _ _ hbx (by decide)).trans hbx
  have hM3 : w3.heap[mB]? = w2.heap[mB]? := by
    have hbl := hM.lt
    refine (ht.block mB (Nat.lt_of_lt_of_le hbl b1.size) fun hm => ?_).trans (b1.block mB hbl)
    obtain ⟨_, cur', hc⟩ := hS mB hm
    rw [b1.block mB hbl] at hc
    exact hM.not_row hc
  obtain ⟨T', eT'⟩ : ∃ T', T ++ List.range' w2.heap.size (w3.heap.size - w2.heap.size) = T' := ⟨_, rfl⟩
  have hTT : ∀ b ∈ T', (b ∈ T ∨ w2.heap.size ≤ b) ∧ b < w3.heap.size := fun b hb => by
    rw [← eT'] at hb
    rcases List.mem_append.1 hb with hb | hb
    · exact ⟨.inl hb, Nat.lt_of_lt_of_le (hts.tl b hb) hsz⟩
    · have := List.mem_range'_1.1 hb; exact ⟨.inr (by omega), by omega⟩
  have hT1 : ∀ b ∈ T, b ∈ T' := fun b hb => by rw [← eT']; exact List.mem_append_left _ hb
  have hts3 : TS W T' t M' (os ++ [n]) G' w3 := hts.keep (hts.b.trans (tt.below hts.b.size hW)) (fun b hl _ hn => tt.block b hl hn) hTT
  have hWT' : ∀ b ∈ T', W.heap.size ≤ b := fun b hb => by
    rcases (hTT b hb).1 with h | h
    · exact hW b h
    · have := hts.b.size; omega
  have hset := heap_setCell_same w3 BO 0 _ 27 (.slice A' (os ++ [n]).length c') hB3
  have hne : ∀ b, b ≠ BO → (w3.setCell ⟨BO, 0, none⟩ (.slice A' (os ++ [n]).length c')).heap[b]? = w3.heap[b]? := fun b hb => heap_setCell_other _ _ _ _ hb
  refine ⟨A', _, c', w3, hrun, hB3, hrow, T', hT1, ⟨⟨M', hts3.set BO 0 _ (hT1 _ hbt) (hW _ hbt)⟩, ⟨?_, by simpa using hset, ?_, hT1 _ hmt, hT1 _ hbt⟩, hWT', hlm, ⟨r, htr⟩⟩⟩
  · refine (hM.same hM3).same (hne mB fun e => ?_)
    rw [e] at hM
    exact hM.not_row hbx
  · refine hv.keep fun b cur hb hc => ⟨?_, hne b fun e => ?_⟩
    · rcases hb with hb | hb
      · exact hT1 b hb
      · rw [← eT']
        refine List.mem_append_right _ (List.mem_range'_1.2 ?_)
        have := (Array.getElem?_eq_some_iff.1 hc).1
        have := b1.size
        omega
    · rw [e, hB3] at hc
      injection hc with hc
      injection hc with _ hc
      cases hc
end
end Go.Proofs.Ytodionedjokdmaa
