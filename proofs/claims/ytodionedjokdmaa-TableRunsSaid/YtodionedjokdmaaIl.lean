/- play: objects go. -/
import Derived.Test.YtodionedjokdmaaIj
import Derived.Test.YtodionedjokdmaaLb
set_option linter.unusedVariables false
set_option linter.unusedSimpArgs false
namespace Go.Proofs.Ytodionedjokdmaa
open Go.RowKit Go.Maps
set_option linter.unusedVariables false
set_option linter.unusedSimpArgs false
def Dd (os : List Nat) (G : GM) (n : Nat) : Nat → Nat → Bool
  | 0, _ => false
  | f + 1, x => decide (x ∈ os) && (x == n || match G x with | some o => Dd os G n f o.hm | none => false)
theorem Tr.zero {r : Nat → Nat} {os : List Nat} {G : GM} (h : Tr r os G) : 0 ∉ os := fun hm => (h.nz 0 hm).1 rfl
theorem Dd_eq {r : Nat → Nat} {os : List Nat} {G : GM} (h : Tr r os G) (n : Nat) : ∀ f f' x, r x < f → r x < f' → Dd os G n f x = Dd os G n f' x
  | 0, _, x, h1, _ => by omega
  | _ + 1, 0, x, _, h2 => by omega
  | f + 1, f' + 1, x, h1, h2 => by
    unfold Dd
    congr 2
    cases hG : G x with
    | none => rfl
    | some o =>
      dsimp only
      rcases (h.hm x o hG).2 with h0 | ⟨_, hr⟩
      · rw [h0]
        cases f <;> cases f' <;> simp [Dd, h.zero]
      · exact Dd_eq h n f f' o.hm (by omega) (by omega)
theorem Dn_ex {r : Nat → Nat} {os : List Nat} {G : GM} (h : Tr r os G) (n : Nat) : ∃ D, Dn os G n D := by
  refine ⟨fun x => Dd os G n (r x + 1) x, fun x => ?_⟩
  show Dd os G n (r x + 1) x = _
  rw [Dd]
  congr 2
  cases hG : G x with
  | none => rfl
  | some o =>
    dsimp only
    rcases (h.hm x o hG).2 with h0 | ⟨_, hr⟩
    · rw [h0]
      cases r x <;> simp [Dd, h.zero]
    · exact Dd_eq h n _ _ o.hm (by omega) (by omega)
theorem Dn.out {r : Nat → Nat} {os : List Nat} {G : GM} {n : Nat} {D : Nat → Bool} (h : Tr r os G) (hD : Dn os G n D) {x : Nat} (hx : x ∉ os) : D x = false := by rw [hD x]; simp [hx]
/-- What is known of who goes, k names on. -/
def gD (os : List Nat) (D : Nat → Bool) (k : Nat) : Nat → Option Bool := fun y => if y ∈ os.take k then some (D y) else none
def gK (gm : Nat → Option CV) (os : List Nat) (D : Nat → Bool) (k : Nat) : Nat → Option CV := fun y => if y ∈ os.take k ∧ D y = true then none else gm y
section
variable {r : Nat → Nat} {os : List Nat} {G G' : GM} {n k x : Nat} {D : Nat → Bool} {gm : Nat → Option CV}
theorem take_mem_succ (hx : os[k]? = some x) (y : Nat) : y ∈ os.take (k + 1) ↔ y ∈ os.take k ∨ y = x := by
  rw [List.take_add_one, hx]
  simp
theorem not_take (hnd : os.Nodup) (hx : os[k]? = some x) : x ∉ os.take k := fun hm => by
  obtain ⟨j, hj⟩ := List.mem_iff_getElem?.1 hm
  rw [List.getElem?_take] at hj
  split at hj
  · rename_i hlt
    have := (List.getElem?_inj (by exact (List.getElem?_eq_some_iff.1 hj).1) hnd).1 (hj.trans hx.symm)
    omega
  · cases hj
theorem gD_succ (hnd : os.Nodup) (hx : os[k]? = some x) : updN (gD os D k) x (some (D x)) = gD os D (k + 1) := by
  funext y
  unfold gD
  by_cases e : y = x
  · subst e; rw [updN_same, if_pos ((take_mem_succ hx y).2 (.inr rfl))]
  · rw [updN_other _ _ e]
    have := take_mem_succ hx y
    by_cases h : y ∈ os.take k
    · rw [if_pos h, if_pos (this.2 (.inl h))]
    · rw [if_neg h, if_neg fun h2 => by rcases this.1 h2 with h3 | h3; exact h h3; exact e h3]
theorem gK_del (hx : os[k]? = some x) (hd : D x = true) : updN (gK gm os D k) x none = gK gm os D (k + 1) := by
  funext y
  unfold gK
  have := take_mem_succ hx y
  by_cases e : y = x
  · subst e; rw [updN_same, if_pos ⟨this.2 (.inr rfl), hd⟩]
  · rw [updN_other _ _ e]
    by_cases h : y ∈ os.take k
    · have h2 := this.2 (.inl h)
      by_cases hy : D y = true
      · rw [if_pos ⟨h, hy⟩, if_pos ⟨h2, hy⟩]
      · rw [if_neg fun hh => hy hh.2, if_neg fun hh => hy hh.2]
    · rw [if_neg fun hh => h hh.1, if_neg fun hh => by rcases this.1 hh.1 with h3 | h3; exact h h3; exact e h3]
theorem gK_keep (hx : os[k]? = some x) (hd : D x = false) : gK gm os D k = gK gm os D (k + 1) := by
  funext y
  unfold gK
  have := take_mem_succ hx y
  by_cases e : y = x
  · subst e
    have hn : ¬ D y = true := by rw [hd]; simp
    rw [if_neg fun hh => hn hh.2, if_neg fun hh => hn hh.2]
  · by_cases h : y ∈ os.take k
    · have h2 := this.2 (.inl h)
      by_cases hy : D y = true
      · rw [if_pos ⟨h, hy⟩, if_pos ⟨h2, hy⟩]
      · rw [if_neg fun hh => hy hh.2, if_neg fun hh => hy hh.2]
    · rw [if_neg fun hh => h hh.1, if_neg fun hh => by rcases this.1 hh.1 with h3 | h3; exact h h3; exact e h3]
theorem cnt_succ (hx : os[k]? = some x) : ((os.take (k + 1)).filter D).length = ((os.take k).filter D).length + if D x = true then 1 else 0 := by
  rw [List.take_add_one, hx, List.filter_append, List.length_append]
  congr 1
  cases h : D x <;> simp [h]
/-- The home's answer is there. -/
theorem home_at (h : Tr r os G) (hD : Dn os G n D) (hx : os[k]? = some x) {o : Ob} (ho : G x = some o) : (gD os D k o.hm).getD false = D o.hm ∧ D x = (x == n || D o.hm) := by
  have hxo : x ∈ os := List.mem_of_getElem? hx
  refine ⟨?_, by rw [hD x, ho]; simp [hxo]⟩
  rcases (h.hm x o ho).2 with h0 | ⟨h1, hr⟩
  · rw [h0, hD.out h h.zero]
    unfold gD
    rw [if_neg fun hm => h.zero (List.mem_of_mem_take hm)]; rfl
  · unfold gD
    rw [if_pos ?_]; · rfl
    obtain ⟨j, hj⟩ := List.mem_iff_getElem?.1 h1
    by_cases hlt : j < k
    · refine List.mem_iff_getElem?.2 ⟨j, ?_⟩
      rw [List.getElem?_take, if_pos hlt]; exact hj
    · exfalso
      obtain ⟨l1, e1⟩ := List.getElem?_eq_some_iff.1 hj
      obtain ⟨l2, e2⟩ := List.getElem?_eq_some_iff.1 hx
      by_cases e : j = k
      · subst e; rw [e1] at e2; rw [← e2] at hr; omega
      · have := List.pairwise_iff_getElem.1 h.pw k j l2 l1 (by omega)
        rw [e1, e2] at this
        omega
theorem MapG.ren {β : Type} {R : Value → Option (DataW β × List MemPlace)} {w : World} {X m : Nat} {ns ns' : List Nat} {g : Nat → Option β} (h : MapG R w X m ns g) (h1 : ns'.Nodup) (h2 : ∀ y, y ∈ ns' ↔ (g y).isSome = true) : MapG R w X ns'.length ns' g := by
  obtain ⟨q0, q1, D, q2, q3, q4, q5⟩ := h.tight
  have hp : ns'.Perm ns := (List.perm_ext_iff_of_nodup h1 q0).2 fun y => by rw [h2 y, q1 y]
  exact ⟨h1, fun y => (h2 y).symm, D, by rw [hp.length_eq]; exact q2, q3, q4, by rw [hp.length_eq]; exact q5⟩
end
/-- What stands while the order is gone through. -/
structure E1 (W wx : World) (T2 : List Nat) (t mB : Nat) (G' : GM) (os : List Nat) (D : Nat → Bool) (gm : Nat → Option CV) (k : Nat) (vl : Value) (TT TL : List Nat) (M : Option Nat) (ns nk : List Nat) (wr : World) : Prop where
  ts : TS W TT t M ns G' wr
  wt : ∀ b ∈ TT, W.heap.size ≤ b
  tt : ∀ b ∈ T2, b ∈ TT
  tl : ∀ b ∈ TL, b ∈ TT ∧ wx.heap.size ≤ b
  rw : RW (· ∈ TL) 28 inU wr vl ((os.take k).filter fun x => !D x)
  mp : MapG rdC wr mB nk.length nk (gK gm os D k)
  bs : ∀ b, b < wx.heap.size → b ≠ mB → wr.heap[b]? = wx.heap[b]?
  sz : wx.heap.size ≤ wr.heap.size
  mT : mB ∈ T2
  ml : mB < wx.heap.size
section
variable {W wx wr : World} {T2 TT TL os ns nk : List Nat} {t mB k x : Nat} {G' : GM} {D : Nat → Bool} {gm : Nat → Option CV} {vl : Value} {M : Option Nat}
theorem E1.del (h : E1 W wx T2 t mB G' os D gm k vl TT TL M ns nk wr) (hx : os[k]? = some x) (hd : D x = true) (hu : U64 x) (ty : TypeId) :
    ∃ w', (Builtin.delete_ #[26, 28] ty #[.map (some mB), .int .u64 (x : Int)]).run Try.prog wr = .ok (.tuple #[]) w' ∧ ∃ nk', E1 W wx T2 t mB G' os D gm (k + 1) vl TT TL M ns nk' w' := by
  obtain ⟨w', hrun, hm, ht⟩ := h.mp.drop Try.underlying26 hu ty
  rw [gK_del hx hd] at hm
  refine ⟨w', hrun, _, h.ts.turn (ht.mono fun b hb => by rw [List.mem_singleton.1 hb]; exact h.tt _ h.mT) h.wt, h.wt, h.tt, h.tl, ?_, hm.tight, fun b hb hne => (ht.block b (Nat.lt_of_lt_of_le hb h.sz) fun hm => hne (List.mem_singleton.1 hm)).trans (h.bs b hb hne), Nat.le_trans h.sz ht.size, h.mT, h.ml⟩
  rw [List.take_add_one, hx, List.filter_append]
  have : List.filter (fun x => !D x) (some x).toList = [] := by simp [hd]
  rw [this, List.append_nil]
  exact h.rw.keep fun b cur hb hc => ⟨hb, ht.block b (Array.getElem?_eq_some_iff.1 hc).1 fun hm => by have := (h.tl b hb).2; have := h.ml; have := List.mem_singleton.1 hm; omega⟩
theorem E1.app (h : E1 W wx T2 t mB G' os D gm k vl TT TL M ns nk wr) (hx : os[k]? = some x) (hd : D x = false) (ho : os.length ≤ 1000) (ty : TypeId) :
    ∃ A l c w', (Builtin.append_ #[27, 27] ty #[vl, .slice (some ⟨wr.heap.size, 0, none⟩) 1 1]).run Try.prog (wr.alloc (Obj.cells #[.int .u64 (x : Int)] 28)) = .ok (.slice A l c) w' ∧ ∃ TT' TL', E1 W wx T2 t mB G' os D gm (k + 1) (.slice A l c) TT' TL' M ns nk w' := by
  obtain ⟨v', w', g, hrun, h1, h2, h3, h4, h5, h6⟩ := lapp2 (y := x) ty h.ts h.wt h.rw (fun b hb => (h.tl b hb).1) (Nat.le_trans (List.length_filter_le _ _) (Nat.le_trans (List.length_take_le' _ _) ho))
  obtain ⟨A, c, rfl, _⟩ := h3.form
  have hTL : ∀ b, b < wx.heap.size → b ∉ TL := fun b hb hm => by have := (h.tl b hm).2; omega
  refine ⟨A, _, c, w', hrun, g :: TT, g :: TL, h1, h2, fun b hb => List.mem_cons_of_mem _ (h.tt b hb), fun b hb => ?_, ?_, ?_, fun b hb hne => (h5 b (Nat.lt_of_lt_of_le hb h.sz) (hTL b hb)).trans (h.bs b hb hne), Nat.le_trans h.sz h6, h.mT, h.ml⟩
  · rcases List.mem_cons.1 hb with rfl | hb
    · refine ⟨by simp, ?_⟩
      rcases h4 with h4 | h4
      · exact (h.tl _ h4).2
      · have := h.sz; omega
    · exact ⟨List.mem_cons_of_mem _ (h.tl b hb).1, (h.tl b hb).2⟩
  · have e : (os.take (k + 1)).filter (fun x => !D x) = (os.take k).filter (fun x => !D x) ++ [x] := by
      rw [List.take_add_one, hx, List.filter_append]
      simp [hd]
    rw [e]; exact h3
  · rw [← gK_keep hx hd]
    exact h.mp.same (h5 mB (Nat.lt_of_lt_of_le h.ml h.sz) (hTL mB h.ml))
theorem E1.done {G : GM} {r : Nat → Nat} {n1 : Nat} {L : List Nat} {BO : Nat} {u : Value} (h : E1 W wx T2 t mB G' os D gm k vl TT TL M ns nk wr) (hk : os.length ≤ k) (hT : Tr r os G) (hD : Dn os G n1 D) (hR : RmM os G n1 D G' L) (hT' : Tr r (os.filter fun x => !D x) G') (hlm : LM G gm) (hBO : wr.heap[BO]? = some (Obj.cells #[u] 27)) (hB2 : BO ∈ T2) :
    PZ W TT t mB BO (os.filter fun x => !D x) G' (gK gm os D k) vl (wr.setCell ⟨BO, 0, none⟩ vl) := by
  have htk : os.take k = os := List.take_of_length_le hk
  have hBT := h.tt _ hB2
  have hne : ∀ b, b ≠ BO → (wr.setCell ⟨BO, 0, none⟩ vl).heap[b]? = wr.heap[b]? := fun b hb => heap_setCell_other _ _ _ _ hb
  have hset := heap_setCell_same wr BO 0 _ 27 vl hBO
  have hgs : ∀ y, (gK gm os D k y).isSome = ((G y).isSome && !D y) := fun y => by
    unfold gK
    rw [htk]
    by_cases hd : D y = true
    · have hy : y ∈ os := by
        by_cases hy : y ∈ os
        · exact hy
        · rw [hD.out hT hy] at hd; cases hd
      rw [if_pos ⟨hy, hd⟩, hd]; simp
    · rw [if_neg fun hh => hd hh.2, hlm.1 y]
      simp [hd]
  have hm := (h.mp.ren (ns' := os.filter fun x => !D x) (hT.nd.filter _) fun y => by
    rw [hgs y, List.mem_filter, hT.mem y]; simp)
  refine ⟨⟨M, (h.ts.ren (hT.nd.filter _) fun y => by rw [hR.some_ y, List.mem_filter, hT.mem y]; simp).set BO 0 _ hBT (h.wt _ hBT)⟩, ⟨hm.same (hne mB fun e => ?_), by simpa using hset, ?_, h.tt _ h.mT, hBT⟩, h.wt, ⟨fun y => by rw [hgs y, hR.some_ y], fun y c o' hc ho => ?_⟩, ⟨r, hT'⟩⟩
  · have := h.mp
    rw [e] at this
    exact this.not_row hBO
  · have hrw := h.rw
    rw [htk] at hrw
    refine hrw.keep fun b cur hb hc => ⟨(h.tl b hb).1, hne b fun e => ?_⟩
    rw [e, hBO] at hc
    injection hc with hc
    injection hc with _ hc
    cases hc
  · obtain ⟨_, o0, k1, k2, k3, _⟩ := hR.get y o' ho
    unfold gK at hc
    split at hc
    · cases hc
    · have := hlm.2 y c o0 hc k1
      rw [k2, k3]; exact this
theorem len_D {G : GM} {r : Nat → Nat} {n1 : Nat} {L : List Nat} (hT : Tr r os G) (hD : Dn os G n1 D) (hR : RmM os G n1 D G' L) (hk : os.length ≤ k) : ((os.take k).filter D).length = L.length := by
  rw [List.take_of_length_le hk]
  refine ((List.perm_ext_iff_of_nodup (hT.nd.filter _) hR.nd).2 fun y => ?_).length_eq
  rw [hR.mem y, List.mem_filter]
  constructor
  · exact fun h => h.2
  · intro h
    refine ⟨?_, h⟩
    by_cases hy : y ∈ os
    · exact hy
    · rw [hD.out hT hy] at h; cases h
/-- Who was seen. -/
def gS (L : List Nat) (i : Nat) : Nat → Option Bool := fun y => if y ∈ L.take i then some true else none
theorem gS_succ {L : List Nat} {i x : Nat} (hx : L[i]? = some x) : updN (gS L i) x (some true) = gS L (i + 1) := by
  funext y
  unfold gS
  have := take_mem_succ hx y
  by_cases e : y = x
  · subst e; rw [updN_same, if_pos (this.2 (.inr rfl))]
  · rw [updN_other _ _ e]
    by_cases h : y ∈ L.take i
    · rw [if_pos h, if_pos (this.2 (.inl h))]
    · rw [if_neg h, if_neg fun h2 => by rcases this.1 h2 with h3 | h3; exact h h3; exact e h3]
end
end Go.Proofs.Ytodionedjokdmaa
