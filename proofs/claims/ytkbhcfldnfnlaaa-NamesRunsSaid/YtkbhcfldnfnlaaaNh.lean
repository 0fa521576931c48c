/- NamesRuns: the law's state. -/
import Derived.Test.YtkbhcfldnfnlaaaNf
import Derived.Test.YtkbhcfldnfnlaaaVw
import Derived.Test.YtkbhcfldnfnlaaaVq
set_option linter.unusedVariables false
set_option linter.unusedSimpArgs false
namespace Go.Proofs.Ytkbhcfldnfnlaaa
open Go.RowKit
set_option linter.unusedVariables false
set_option linter.unusedSimpArgs false
section
variable {own own' : Nat → Prop} {e : TypeId} {w w' : World} {v : Value} {rs : List Rg} {b o c n i j : Nat} {p q : Rg} {x : Int}
theorem rv_below (h : RV own e 3 encR w v rs) (hb : Below w.heap.size w w') : RV own e 3 encR w' v rs := h.keep fun b cur ho hc => ⟨ho, hb.block b (Array.getElem?_eq_some_iff.1 hc).1⟩
theorem rv_form (h : RV own e 3 encR w v rs) (h0 : 0 < rs.length) : ∃ b o c, v = .slice (some ⟨b, o, none⟩) rs.length c ∧ rs.length ≤ c ∧ c ≤ maxLen ∧ own b ∧ b < w.heap.size := by
  rcases h with ⟨rfl, _⟩ | ⟨g, o, cap, cur, rfl, h1, h2, _, h3, h4, _⟩
  · cases h0
  · exact ⟨_, _, _, rfl, h3, h4, h1, (Array.getElem?_eq_some_iff.1 h2).1⟩
theorem rv_pv (h : RV own e 3 encR w (.slice (some ⟨b, o, none⟩) n c) rs) (hi : rs[i]? = some p) : PV w b (o + i * 3) p.l p.n p.u := by
  rcases h with ⟨_, h⟩ | ⟨g, o', cap, cur, h1, h2, h3, h4, h5, h6, h7⟩
  · cases h
  · injection h1 with e1 e2 e3
    injection e1 with e1
    injection e1 with e1 e4
    subst e1 e2 e3 e4
    have h := h7 i p hi
    exact ⟨by rw [cell_of_row _ _ _ _ e (0, 0) h3]; exact h 0 _ rfl, by rw [cell_of_row _ _ _ _ e (0, 0) h3]; exact h 1 _ rfl, by rw [cell_of_row _ _ _ _ e (0, 0) h3]; exact h 2 _ rfl, frozen_of_row _ _ _ _ _ h3, frozen_of_row _ _ _ _ _ h3, frozen_of_row _ _ _ _ _ h3⟩
theorem rv_put (h : RV own e 3 encR w (.slice (some ⟨b, o, none⟩) n c) rs) (hi : rs[i]? = some p) (hj : j < 3) (hq : encR q = (encR p).set j (.int .u64 x)) (hb : Below w.heap.size (w.setCell ⟨b, o + i * 3 + j, none⟩ (.int .u64 x)) w') :
    RV own e 3 encR w' (.slice (some ⟨b, o, none⟩) n c) (rs.set i q) := rv_below (RV.set h encR_len hi hj hq) (below_sz hb)
theorem rv_one (a : Nat) (h : w.heap[a]? = some (Obj.cells #[.int .u64 p.l, .int .u64 p.n, .int .u64 p.u] e)) (ho : own a) : RV own e 3 encR w (.slice (some ⟨a, 0, none⟩) 1 1) [p] := by
  refine .inr ⟨a, 0, 1, _, rfl, ho, h, by simp, Nat.le_refl _, by unfold maxLen; omega, fun i x hi j u hu => ?_⟩
  match i with
  | 0 =>
    obtain rfl : p = x := by simpa using hi
    match j with
    | 0 => simpa [encR] using hu
    | 1 => simpa [encR] using hu
    | 2 => simpa [encR] using hu
    | j + 3 => simp [encR] at hu
  | i + 1 => simp at hi
theorem rv_lv (a : Nat) (h : w.heap[a]? = some (Obj.cells #[.int .u64 p.l, .int .u64 p.n, .int .u64 p.u] e)) : LV 3 encR w (some ⟨a, 0, none⟩) [p] := by
  obtain ⟨A, c, e, _, _, h⟩ := RV.form (rv_one (own := fun _ => True) a h trivial)
  injection e with e
  rw [e]; exact h
end
theorem infoA : (Try.prog.info? 30).map (fun i => (i.zero, i.size, i.bytes)) = some (some (.agg #[.int .u64 0, .int .u64 0, .int .u64 0]), 3, 24) := by kernel_rfl
/-- No name is given twice. -/
def Fit (rs : List Rg) (g : Int → Bool) : Prop := (∀ x, cnt x rs + (if g x then 1 else 0) ≤ 1) ∧ g 0 = false
theorem Fit.one {l u : Int} (h : 1 ≤ l) : Fit [⟨l, l, u⟩] (fun _ => false) := ⟨fun x => by simp only [cnt, ind]; split <;> simp, rfl⟩
theorem Fit.none {rs : List Rg} {g : Int → Bool} (h : Fit rs g) : Fit rs (updF g 0 false) := ⟨fun x => by
  by_cases e : x = 0
  · subst e; rw [updF_same]; have := h.1 0; rw [h.2] at this; exact this
  · rw [updF_other _ _ e]; exact h.1 x, updF_same _ _ _⟩
theorem Fit.take {rs : List Rg} {g : Int → Bool} (h : Fit rs g) {i : Nat} {l n u : Int} (hi : rs[i]? = some ⟨l, n, u⟩) (hn : n < u) (h1 : 1 ≤ n) : g n = false ∧ Fit (rs.set i ⟨l, n + 1, u⟩) (updF g n true) := by
  have h2 := h.1 n
  have h3 := cnt_at n hi
  have h4 : ind ⟨l, n, u⟩ n = 1 := by unfold ind; rw [if_pos ⟨Int.le_refl _, hn⟩]
  have h5 : g n = false := by
    cases hg : g n with
    | false => rfl
    | true => rw [hg, if_pos rfl] at h2; omega
  refine ⟨h5, fun x => ?_, by rw [updF_other _ _ (by omega)]; exact h.2⟩
  rw [cnt_set x hi]
  have h6 := ind_take l n u x hn
  have h7 := h.1 x
  by_cases e : x = n
  · subst e; rw [updF_same]; rw [if_pos rfl] at h6; rw [h5] at h7; simp at h7 ⊢; omega
  · rw [updF_other _ _ e]; rw [if_neg e] at h6; omega
theorem Fit.split {rs : List Rg} {g : Int → Bool} (h : Fit rs g) {i : Nat} {l n u k : Int} (hi : rs[i]? = some ⟨l, n, u⟩) (h0 : 0 ≤ k) (h1 : k ≤ u - n) : Fit (rs.set i ⟨l, n, u - k⟩ ++ [⟨u - k, u - k, u⟩]) g := by
  refine ⟨fun x => ?_, h.2⟩
  rw [cnt_append, cnt_set x hi]
  have := ind_split l n u k x h0 h1 (u - k)
  have := h.1 x
  simp only [cnt]; omega
/-- The rows at v1, v2 (l and m), and the map. -/
structure GS (W : World) (v1 v2 : Value) (G : Nat) (rs ms : List Rg) (K : Nat) (f : Int → Bool) (w : World) : Prop where
  b : Below W.heap.size W w
  r : RV (fun b => W.heap.size ≤ b) 26 3 encR w v1 rs
  q : RV (fun b => W.heap.size ≤ b) 30 3 encR w v2 ms
  g : W.heap.size ≤ G
  m : MapB w G K f
section
variable {W w w' : World} {v1 v2 v' : Value} {G K : Nat} {rs ms : List Rg} {f : Int → Bool} {b o c n i j : Nat} {p q : Rg} {x : Int}
theorem GS.below (h : GS W v1 v2 G rs ms K f w) (hb : Below w.heap.size w w') : GS W v1 v2 G rs ms K f w' := ⟨below_up h.b hb, rv_below h.r hb, rv_below h.q hb, h.g, h.m.same (hb.block G h.m.lt)⟩
theorem GS.drew (h : GS W v1 v2 G rs ms K f w) : GS W v1 v2 G rs ms K f w.drew := ⟨h.b.drew, h.r, h.q, h.g, h.m.same rfl⟩
/-- A cell of l is stored to. -/
theorem GS.put1 (h : GS W (.slice (some ⟨b, o, none⟩) n c) v2 G rs ms K f w) (hi : rs[i]? = some p) (hj : j < 3) (hq : encR q = (encR p).set j (.int .u64 x)) (hb : Below w.heap.size (w.setCell ⟨b, o + i * 3 + j, none⟩ (.int .u64 x)) w') :
    GS W (.slice (some ⟨b, o, none⟩) n c) v2 G (rs.set i q) ms K f w' := by
  obtain ⟨ho, cur, hc⟩ := h.r.lt
  have other : ∀ (k : Nat) (o : Obj), k < w.heap.size → w.heap[k]? = some o → (∀ cur, o ≠ Obj.cells cur 26) → w'.heap[k]? = w.heap[k]? := fun k o hl hk hn => (hb.block k hl).trans (heap_setCell_other _ _ _ _ (fun e => by
    rw [e, hc] at hk; injection hk with hk; exact hn cur hk.symm))
  have hg : G ≠ b := fun e => by rw [← e] at hc; exact h.m.not_row hc
  exact ⟨below_put h.b ho hb, rv_put h.r hi hj hq hb, h.q.keep fun k cur' hk hck => ⟨hk, other k _ (Array.getElem?_eq_some_iff.1 hck).1 hck (fun cur e => by simp at e)⟩, h.g, h.m.same ((hb.block G h.m.lt).trans (heap_setCell_other _ _ _ _ hg))⟩
/-- A cell of m is stored to. -/
theorem GS.put2 (h : GS W v1 (.slice (some ⟨b, o, none⟩) n c) G rs ms K f w) (hi : ms[i]? = some p) (hj : j < 3) (hq : encR q = (encR p).set j (.int .u64 x)) (hb : Below w.heap.size (w.setCell ⟨b, o + i * 3 + j, none⟩ (.int .u64 x)) w') :
    GS W v1 (.slice (some ⟨b, o, none⟩) n c) G rs (ms.set i q) K f w' := by
  obtain ⟨ho, cur, hc⟩ := h.q.lt
  have other : ∀ (k : Nat) (o : Obj), k < w.heap.size → w.heap[k]? = some o → (∀ cur, o ≠ Obj.cells cur 30) → w'.heap[k]? = w.heap[k]? := fun k o hl hk hn => (hb.block k hl).trans (heap_setCell_other _ _ _ _ (fun e => by
    rw [e, hc] at hk; injection hk with hk; exact hn cur hk.symm))
  have hg : G ≠ b := fun e => by rw [← e] at hc; exact h.m.not_row hc
  exact ⟨below_put h.b ho hb, h.r.keep fun k cur' hk hck => ⟨hk, other k _ (Array.getElem?_eq_some_iff.1 hck).1 hck (fun cur e => by simp at e)⟩, rv_put h.q hi hj hq hb, h.g, h.m.same ((hb.block G h.m.lt).trans (heap_setCell_other _ _ _ _ hg))⟩
/-- The map is stored to. -/
theorem GS.store (h : GS W v1 v2 G rs ms K f w) (hK : K < maxLen) {j : Int} (h0 : 0 ≤ j) (hj : j ≤ 18446744073709551615) (b : Bool) :
    ∃ w', (Instr.mapUpdate 32 (.map (some G)) (.int .u64 j) (.bool b)).run Try.prog w = .ok () w' ∧ GS W v1 v2 G rs ms (K + 1) (updF f j b) w' := by
  obtain ⟨w', hrun, hm, hT⟩ := h.m.store hK h0 hj b
  have other : ∀ (k : Nat) (cur : Array Value) (t : TypeId), w.heap[k]? = some (Obj.cells cur t) → w'.heap[k]? = w.heap[k]? := fun k cur t hc => hT.block k (Array.getElem?_eq_some_iff.1 hc).1 (fun e => by
    rw [List.mem_singleton.1 e] at hc
    exact h.m.not_row hc)
  exact ⟨w', hrun, h.b.trans (hT.below h.b.size (fun b hb => by rw [List.mem_singleton.1 hb]; exact h.g)), h.r.keep fun k cur hk hc => ⟨hk, other k cur _ hc⟩, h.q.keep fun k cur hk hc => ⟨hk, other k cur _ hc⟩, h.g, hm⟩
/-- One more range. -/
theorem GS.app1 {a X : Nat} (h : GS W v1 v2 G rs ms K f w) (hX : ∀ o n c, v1 ≠ .slice (some ⟨X, o, none⟩) n c) (hg : w.heap[a]? = some (Obj.cells #[.int .u64 p.l, .int .u64 p.n, .int .u64 p.u] 26)) (hl : rs.length + 1 ≤ 100000) :
    ∃ v' w', (Builtin.append_ #[29, 29] 29 #[v1, .slice (some ⟨a, 0, none⟩) 1 1]).run Try.prog w = .ok v' w' ∧ GS W v' v2 G (rs ++ [p]) ms K f w' ∧ (∀ (k : Nat) (o : Obj), w.heap[k]? = some o → (∀ cur, o ≠ Obj.cells cur 26) → w'.heap[k]? = some o) ∧ (∀ o : Obj, w.heap[X]? = some o → w'.heap[X]? = some o) := by
  have hrX : RV (fun b => W.heap.size ≤ b ∧ b ≠ X) 26 3 encR w v1 rs := by
    rcases h.r with h | ⟨g, o, cap, cur, h1, h2, h3⟩
    · exact .inl h
    · exact .inr ⟨g, o, cap, cur, h1, ⟨h2, fun e => hX o _ _ (by rw [← e]; exact h1)⟩, h3⟩
  obtain ⟨i, hi, hie⟩ := Option.map_eq_some_iff.1 infoR
  injection hie with hz h2
  injection h2 with hsz hby
  obtain ⟨v', w', hrun, hr, S, hT, hS⟩ := append_rv (P := Try.prog) (ys := [p]) 29 29 i _ 24 Try.underlying29 hi hz hsz hby (by omega) rfl encR_len encR_one (by omega) hrX (by simpa using hl) (some ⟨a, 0, none⟩) 1 (by simp) (rv_lv a hg)
  have other : ∀ (k : Nat) (o : Obj), w.heap[k]? = some o → (∀ cur, o ≠ Obj.cells cur 26) → w'.heap[k]? = w.heap[k]? := fun k o hk hn => hT.block k (Array.getElem?_eq_some_iff.1 hk).1 fun hm => by
    obtain ⟨_, cur, hc⟩ := hS k hm
    rw [hk] at hc
    injection hc with hc
    exact hn cur hc
  refine ⟨v', w', hrun, ⟨h.b.trans (hT.below h.b.size fun b hb => (hS b hb).1.1), hr.keep fun b cur hb _ => ⟨by
      rcases hb with hb | hb
      · exact hb.1
      · exact Nat.le_trans h.b.size hb, rfl⟩, h.q.keep fun k cur hk hc => ⟨hk, other k _ hc (fun cur e => by simp at e)⟩, h.g, h.m.same (hT.block G h.m.lt fun hm => by
    obtain ⟨_, cur, hc⟩ := hS G hm
    exact h.m.not_row hc)⟩, fun k o hk hn => (other k o hk hn).trans hk, fun o ho => (hT.block X (Array.getElem?_eq_some_iff.1 ho).1 fun hm => (hS X hm).1.2 rfl).trans ho⟩
/-- One more array; what was read of m is read yet. -/
theorem GS.app2 {a : Nat} (h : GS W v1 v2 G rs ms K f w) (hg : w.heap[a]? = some (Obj.cells #[.int .u64 p.l, .int .u64 p.n, .int .u64 p.u] 30)) (hl : ms.length + 1 ≤ 100000) :
    ∃ v' w', (Builtin.append_ #[31, 31] 31 #[v2, .slice (some ⟨a, 0, none⟩) 1 1]).run Try.prog w = .ok v' w' ∧ GS W v1 v' G rs (ms ++ [p]) K f w' ∧ (∀ (k : Nat) (o : Obj), w.heap[k]? = some o → (∀ cur, o ≠ Obj.cells cur 30) → w'.heap[k]? = some o) ∧ RV (fun b => W.heap.size ≤ b) 30 3 encR w' v2 ms := by
  obtain ⟨i, hi, hie⟩ := Option.map_eq_some_iff.1 infoA
  injection hie with hz h2
  injection h2 with hsz hby
  obtain ⟨v', w', hrun, hr, ⟨S, hT, hS⟩, hold⟩ := append_rv2 (P := Try.prog) (ys := [p]) 31 31 i _ 24 Try.underlying31 hi hz hsz hby (by omega) rfl encR_len encR_one (by omega) h.q (by simpa using hl) (some ⟨a, 0, none⟩) 1 (by simp) (rv_lv a hg)
  have other : ∀ (k : Nat) (o : Obj), w.heap[k]? = some o → (∀ cur, o ≠ Obj.cells cur 30) → w'.heap[k]? = w.heap[k]? := fun k o hk hn => hT.block k (Array.getElem?_eq_some_iff.1 hk).1 fun hm => by
    obtain ⟨_, cur, hc⟩ := hS k hm
    rw [hk] at hc
    injection hc with hc
    exact hn cur hc
  exact ⟨v', w', hrun, ⟨h.b.trans (hT.below h.b.size fun b hb => (hS b hb).1), h.r.keep fun k cur hk hc => ⟨hk, other k _ hc (fun cur e => by simp at e)⟩, hr.keep fun b cur hb _ => ⟨by
      rcases hb with hb | hb
      · exact hb
      · exact Nat.le_trans h.b.size hb, rfl⟩, h.g, h.m.same (hT.block G h.m.lt fun hm => by
    obtain ⟨_, cur, hc⟩ := hS G hm
    exact h.m.not_row hc)⟩, fun k o hk hn => (other k o hk hn).trans hk, hold⟩
end
end Go.Proofs.Ytkbhcfldnfnlaaa
