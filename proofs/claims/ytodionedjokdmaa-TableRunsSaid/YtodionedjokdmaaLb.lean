/- TableThreads. -/
import Derived.Test.YtodionedjokdmaaOm
set_option linter.unusedVariables false
set_option linter.unusedSimpArgs false
namespace Go.Proofs.Ytodionedjokdmaa
open Go.RowKit
set_option linter.unusedVariables false
set_option linter.unusedSimpArgs false
/-- Is the i-th one a thread, and on which core? -/
def odd (x : Int) : Bool := bits .and .i64 x 1 == 1
def core (x : Int) : Int := bits .and .i64 (x / 2) 3
/-- The names of the threads on a core, of the first j. -/
def wf (xs : List Int) (c i : Nat) : Option Nat := match xs[i]? with
  | some x => if odd x = true ∧ core x = (c : Int) then some (i + 2) else none
  | none => none
def wnt (xs : List Int) (c : Nat) (j : Nat) : List Nat := (List.range j).filterMap (wf xs c)
theorem wnt_succ {xs : List Int} {j : Nat} {x : Int} (c : Nat) (h : xs[j]? = some x) : wnt xs c (j + 1) = wnt xs c j ++ (if odd x = true ∧ core x = (c : Int) then [j + 2] else []) := by
  unfold wnt
  rw [List.range_succ, List.filterMap_append]
  congr 1
  have : wf xs c j = if odd x = true ∧ core x = (c : Int) then some (j + 2) else none := by unfold wf; rw [h]
  by_cases hp : odd x = true ∧ core x = (c : Int)
  · rw [if_pos hp] at this ⊢
    rw [List.filterMap_cons_some this]; rfl
  · rw [if_neg hp] at this ⊢
    rw [List.filterMap_cons_none this]; rfl
theorem wnt_len (xs : List Int) (c j : Nat) : (wnt xs c j).length ≤ j := by
  unfold wnt
  have := List.length_filterMap_le (wf xs c) (List.range j)
  rwa [List.length_range] at this
/-- The root has the first j; they are threads or segments. -/
structure TG (G : Nat → Option Ob) (xs : List Int) (j : Nat) : Prop where
  root : ∃ b, G 1 = some ⟨b, 1, 0, (List.range j).map (· + 2), none, 0⟩
  kid : ∀ i x, i < j → xs[i]? = some x → ∃ o, G (i + 2) = some o ∧ o.hm = 1 ∧ o.ks = [] ∧ o.kd ≠ 1 ∧ ∀ c : Int, runs o c = (odd x && core x == c)
  out : ∀ n, n ≠ 1 → (n < 2 ∨ j + 2 ≤ n) → G n = none
theorem filter_filterMap {xs : List Int} {G : Nat → Option Ob} {j : Nat} (h : TG G xs j) (hj : j ≤ xs.length) (c : Nat) : thrN G 1 (c : Int) = wnt xs c j := by
  obtain ⟨b, hb⟩ := h.root
  unfold thrN
  rw [show ctr G 1 = some ⟨b, 1, 0, (List.range j).map (· + 2), none, 0⟩ by unfold ctr; rw [hb]; rfl]
  simp only
  unfold wnt
  rw [List.filter_map]
  have hf : ∀ i ∈ List.range j, wf xs c i = if thr G 1 (c : Int) (i + 2) = true then some (i + 2) else none := fun i hi => by
    have hi := List.mem_range.1 hi
    obtain ⟨x, hx⟩ : ∃ x, xs[i]? = some x := ⟨_, List.getElem?_eq_getElem (by omega)⟩
    obtain ⟨o, ho, h1, _, _, h4⟩ := h.kid i x hi hx
    unfold wf
    rw [hx]
    have : thr G 1 (c : Int) (i + 2) = (odd x && core x == (c : Int)) := by
      unfold thr kdd
      rw [ho, Option.filter_some, if_pos (by simp [h1])]
      exact h4 c
    rw [this]
    simp only [Bool.and_eq_true, beq_iff_eq]
  revert hf
  generalize List.range j = L
  intro hf
  induction L with
  | nil => rfl
  | cons a L ih =>
    have hfa := hf a (by simp)
    have ih := ih fun i hi => hf i (List.mem_cons_of_mem _ hi)
    by_cases hp : thr G 1 (c : Int) (a + 2) = true
    · rw [if_pos hp] at hfa
      rw [List.filterMap_cons_some hfa, List.filter_cons_of_pos (by simpa using hp), List.map_cons]
      exact congrArg _ ih
    · rw [if_neg hp] at hfa
      rw [List.filterMap_cons_none hfa, List.filter_cons_of_neg (by simpa using hp)]
      exact ih
section
variable {W w w' : World} {T TL : List Nat} {t : Nat} {M : Option Nat} {ns : List Nat} {G : Nat → Option Ob} {v : Value} {ys : List Nat} {y : Nat}
/-- The law appends to one of its lists. -/
theorem lapp2 (ty : TypeId) (h : TS W T t M ns G w) (hW : ∀ b ∈ T, W.heap.size ≤ b) (hL : RW (· ∈ TL) 28 inU w v ys) (hd : ∀ b ∈ TL, b ∈ T) (hl : ys.length ≤ 1000) :
    ∃ v' w' g, (Builtin.append_ #[27, 27] ty #[v, .slice (some ⟨w.heap.size, 0, none⟩) 1 1]).run Try.prog (w.alloc (Obj.cells #[.int .u64 (y : Int)] 28)) = .ok v' w' ∧ TS W (g :: T) t M ns G w' ∧ (∀ b ∈ g :: T, W.heap.size ≤ b) ∧
      RW (· ∈ g :: TL) 28 inU w' v' (ys ++ [y]) ∧ (g ∈ TL ∨ w.heap.size ≤ g) ∧ (∀ b, b < w.heap.size → b ∉ TL → w'.heap[b]? = w.heap[b]?) ∧ w.heap.size ≤ w'.heap.size := by
  have b1 := below_alloc1 w (Obj.cells #[.int .u64 (y : Int)] 28)
  have hq := heap_alloc_new w (Obj.cells #[.int .u64 (y : Int)] 28)
  obtain ⟨v', w', hrun, hv, S, ht, hS⟩ := append_u ty (hL.below b1) (ys := [y]) (by simp; omega) (some ⟨w.heap.size, 0, none⟩) 1 1 rfl (by simp) (lr_one hq)
  have hsz : w.heap.size ≤ w'.heap.size := Nat.le_trans b1.size ht.size
  have blk : ∀ b, b < w.heap.size → b ∉ TL → w'.heap[b]? = w.heap[b]? := fun b hb hn => (ht.block b (Nat.lt_of_lt_of_le hb b1.size) fun hm => hn (hS b hm).1).trans (b1.block b hb)
  have hbW : Below W.heap.size W w' := (h.b.trans (b1.mono h.b.size)).trans (ht.below (Nat.le_trans h.b.size b1.size) fun b hb => hW b (hd b (hS b hb).1))
  obtain ⟨g, hg, hgl, hrow⟩ : ∃ g, (g ∈ TL ∨ w.heap.size ≤ g) ∧ g < w'.heap.size ∧ RW (· ∈ g :: TL) 28 inU w' v' (ys ++ [y]) := by
    rcases hv with ⟨h1, _⟩ | ⟨g, o, cap, cur, rfl, hg, hc, hr⟩
    · simp at h1
    · exact ⟨g, hg.imp id (fun h => Nat.le_trans b1.size h), (Array.getElem?_eq_some_iff.1 hc).1, .inr ⟨g, o, cap, cur, rfl, by simp, hc, hr⟩⟩
  refine ⟨v', w', g, hrun, h.keep hbW (fun b hb _ hn => blk b hb fun hm => hn (hd b hm)) (fun b hb => ?_), fun b hb => ?_, hrow, hg, blk, hsz⟩
  · rcases List.mem_cons.1 hb with rfl | hb
    · exact ⟨hg.imp (fun h => hd _ h) id, hgl⟩
    · exact ⟨.inl hb, Nat.lt_of_lt_of_le (h.tl b hb) hsz⟩
  · rcases List.mem_cons.1 hb with rfl | hb
    · rcases hg with hg | hg
      · exact hW _ (hd _ hg)
      · exact Nat.le_trans h.b.size hg
    · exact hW _ hb
/-- The law's four lists. -/
structure WS (T : List Nat) (A0 : Nat) (xs : List Int) (j : Nat) (vs : Nat → Value) (R : Nat → List Nat) (w : World) : Prop where
  a : w.heap[A0]? = some (Obj.cells #[vs 0, vs 1, vs 2, vs 3] 61)
  aT : A0 ∈ T
  r : ∀ c, c < 4 → RW (· ∈ R c) 28 inU w (vs c) (wnt xs c j)
  rT : ∀ c, c < 4 → ∀ b ∈ R c, b ∈ T
  aR : ∀ c, c < 4 → A0 ∉ R c
  ap : ∀ c d, c < 4 → d < 4 → c ≠ d → ∀ b ∈ R c, b ∉ R d
theorem WS.same {A0 : Nat} {xs : List Int} {j : Nat} {vs : Nat → Value} {R : Nat → List Nat} (h : WS T A0 xs j vs R w) (hs : Same T w w') : WS T A0 xs j vs R w' :=
  ⟨(hs A0 h.aT).trans h.a, h.aT, fun c hc => (h.r c hc).keep fun b cur hb _ => ⟨hb, hs b (h.rT c hc b hb)⟩, h.rT, h.aR, h.ap⟩
theorem WS.at_ {A0 : Nat} {xs : List Int} {j : Nat} {vs : Nat → Value} {R : Nat → List Nat} (h : WS T A0 xs j vs R w) {c : Nat} (hc : c < 4) : w.cell? ⟨A0, c, none⟩ = some (vs c) ∧ w.frozen? ⟨A0, c, none⟩ = false := by
  refine ⟨?_, frozen_of_row _ _ _ _ _ h.a⟩
  rw [cell_of_row _ _ _ _ _ (0, 0) h.a]
  match c, hc with
  | 0, _ | 1, _ | 2, _ | 3, _ => rfl
end
/-- A thread is made. -/
theorem ob_thread {own : Nat → Prop} {wr : World} {nm cc : Nat} (h1 : U64 nm) (h2 : own wr.heap.size) (h3 : own (wr.heap.size + 1)) :
    OB own ((wr.alloc (Obj.cells (((((Try.zeroCells60.setIfInBounds 2 (.int .u64 (nm : Int))).setIfInBounds 3 (.int .i64 2)).setIfInBounds 6 (.int .u64 1)).setIfInBounds 3 (.int .i64 3)).setIfInBounds 19 (.pointer (some ⟨wr.heap.size + 1, 0, none⟩))) 60)).alloc (Obj.cells #[.int .u64 0, .int .u64 0, .int .u64 0, .int .u64 0, .int .u64 0, .int .u64 0, .int .u64 0, .int .u64 0, .int .u64 0, .int .u64 0, .int .u64 0, .int .u64 0, .int .u64 0, .int .u64 0, .int .u64 0, .int .u64 0, .int .u64 0, .int .i64 0, .slice none 0 0, .int .u64 0, .int .i64 0, .int .i64 (cc : Int), .int .i64 0, .int .i64 0, .int .i64 0, .int .i64 0, .int .u64 0, .int .i64 0, .int .u64 0, .int .u64 0, .int .u64 0, .int .u64 0, .int .u64 0, .int .u64 0, .int .u64 0, .int .i64 0, .int .i64 0, .slice none 0 0, .int .i64 0, .slice none 0 0, .slice none 0 0, .int .i64 0, .slice none 0 0] 74)) nm ⟨wr.heap.size, 3, 1, [], some (wr.heap.size + 1), (cc : Int)⟩ := by
  have e : ((((Try.zeroCells60.setIfInBounds 2 (.int .u64 (nm : Int))).setIfInBounds 3 (.int .i64 2)).setIfInBounds 6 (.int .u64 1)).setIfInBounds 3 (.int .i64 3)).setIfInBounds 19 (.pointer (some ⟨wr.heap.size + 1, 0, none⟩)) =
      ((ocs Try.zeroCells60 (.int .u64 (nm : Int)) (.int .i64 2) (.int .u64 1)).setIfInBounds 3 (.int .i64 3)).setIfInBounds 19 (.pointer (some ⟨wr.heap.size + 1, 0, none⟩)) := rfl
  rw [e]
  have hs := ocs_size (.int .u64 (nm : Int)) (.int .i64 2) (.int .u64 1)
  obtain ⟨k1, k2, k3, k4, k5⟩ := ocs_at (.int .u64 (nm : Int)) (.int .i64 2) (.int .u64 1)
  obtain ⟨C, eC⟩ : ∃ C, ocs Try.zeroCells60 (.int .u64 (nm : Int)) (.int .i64 2) (.int .u64 1) = C := ⟨_, rfl⟩
  rw [eC] at hs k1 k2 k3 k4 k5 ⊢
  refine ⟨h2, ⟨h1, u64_of (by show 1 ≤ 1000000; omega), by simp⟩, ⟨_, (Below.heap_alloc _ _ _ (by simp)).trans (heap_alloc_new wr _), by simp only [Array.size_setIfInBounds]; exact hs, ?_, ?_, ?_, ?_, .slice none 0 0, ?_, RW.nil _ _⟩, fun b hb => ?_⟩
  · rw [Array.getElem?_setIfInBounds_ne (by decide), Array.getElem?_setIfInBounds_ne (by decide)]; exact k1
  · rw [Array.getElem?_setIfInBounds_ne (by decide), set_self _ (by omega)]
  · rw [Array.getElem?_setIfInBounds_ne (by decide), Array.getElem?_setIfInBounds_ne (by decide)]; exact k3
  · rw [set_self _ (by simp only [Array.size_setIfInBounds]; omega)]; rfl
  · rw [Array.getElem?_setIfInBounds_ne (by decide), Array.getElem?_setIfInBounds_ne (by decide)]; exact k4
  · injection hb with hb
    rw [← hb]
    have := heap_alloc_new (wr.alloc (Obj.cells ((C.setIfInBounds 3 (.int .i64 3)).setIfInBounds 19 (.pointer (some ⟨wr.heap.size + 1, 0, none⟩))) 60)) (Obj.cells #[.int .u64 0, .int .u64 0, .int .u64 0, .int .u64 0, .int .u64 0, .int .u64 0, .int .u64 0, .int .u64 0, .int .u64 0, .int .u64 0, .int .u64 0, .int .u64 0, .int .u64 0, .int .u64 0, .int .u64 0, .int .u64 0, .int .u64 0, .int .i64 0, .slice none 0 0, .int .u64 0, .int .i64 0, .int .i64 (cc : Int), .int .i64 0, .int .i64 0, .int .i64 0, .int .i64 0, .int .u64 0, .int .i64 0, .int .u64 0, .int .u64 0, .int .u64 0, .int .u64 0, .int .u64 0, .int .u64 0, .int .u64 0, .int .i64 0, .int .i64 0, .slice none 0 0, .int .i64 0, .slice none 0 0, .slice none 0 0, .int .i64 0, .slice none 0 0] 74)
    rw [World.size_alloc] at this
    exact ⟨h3, _, this, rfl⟩
theorem WS.skip {T : List Nat} {A0 : Nat} {xs : List Int} {j : Nat} {vs : Nat → Value} {R : Nat → List Nat} {w : World} {x : Int} (h : WS T A0 xs j vs R w) (hx : xs[j]? = some x) (ho : odd x = false) : WS T A0 xs (j + 1) vs R w :=
  ⟨h.a, h.aT, fun c hc => by rw [wnt_succ c hx, if_neg (by simp [ho]), List.append_nil]; exact h.r c hc, h.rT, h.aR, h.ap⟩
theorem WS.put {T : List Nat} {A0 : Nat} {xs : List Int} {j : Nat} {vs : Nat → Value} {R : Nat → List Nat} {w w7 : World} {x : Int} {cc g : Nat} {v7 : Value} (h : WS T A0 xs j vs R w) (hx : xs[j]? = some x) (ho : odd x = true) (hcx : core x = (cc : Int)) (hcc : cc < 4) (hT : ∀ b ∈ T, b < w.heap.size)
    (hblk : ∀ b, b < w.heap.size → b ∉ R cc → w7.heap[b]? = w.heap[b]?) (hrow : RW (· ∈ g :: R cc) 28 inU w7 v7 (wnt xs cc j ++ [j + 2])) (hg : g ∈ R cc ∨ w.heap.size ≤ g) :
    WS (g :: T) A0 xs (j + 1) (updN vs cc v7) (updN R cc (g :: R cc)) (w7.setCell ⟨A0, cc, none⟩ v7) := by
  have hA := hT A0 h.aT
  have ha7 := (hblk A0 hA (h.aR cc hcc)).trans h.a
  have hs := heap_setCell_same w7 A0 cc _ 61 v7 ha7
  have hkeep : ∀ {own own' : Nat → Prop} {u : Value} {ys : List Nat} {wa : World}, RW own 28 inU wa u ys → (∀ b cur, own b → wa.heap[b]? = some (Obj.cells cur 28) → own' b ∧ w7.heap[b]? = wa.heap[b]?) → RW own' 28 inU (w7.setCell ⟨A0, cc, none⟩ v7) u ys := fun hr hk => hr.keep fun b cur hb hc => by
    obtain ⟨k1, k2⟩ := hk b cur hb hc
    refine ⟨k1, (heap_setCell_other _ _ _ _ fun e => ?_).trans k2⟩
    have e2 : b = A0 := e
    rw [e2] at k2 hc
    rw [← k2, ha7] at hc
    injection hc with hc
    injection hc with _ hc
    cases hc
  refine ⟨?_, List.mem_cons_of_mem _ h.aT, fun c hc => ?_, fun c hc b hb => ?_, fun c hc => ?_, fun c d hc hd hcd b hb => ?_⟩
  · rw [hs]
    congr 2
    match cc, hcc with
    | 0, _ | 1, _ | 2, _ | 3, _ => rfl
  · by_cases e : c = cc
    · subst e
      rw [updN_same, updN_same, wnt_succ c hx, if_pos ⟨ho, hcx⟩]
      exact hkeep hrow fun b cur hb _ => ⟨hb, rfl⟩
    · rw [updN_other _ _ e, updN_other _ _ e, wnt_succ c hx, if_neg (fun hh => e (by have := hh.2; rw [hcx] at this; omega)), List.append_nil]
      exact hkeep (h.r c hc) fun b cur hb hc' => ⟨hb, hblk b (hT b (h.rT c hc b hb)) (h.ap c cc hc hcc e b hb)⟩
  · by_cases e : c = cc
    · subst e
      rw [updN_same] at hb
      rcases List.mem_cons.1 hb with rfl | hb
      · exact List.mem_cons_self
      · exact List.mem_cons_of_mem _ (h.rT c hc b hb)
    · rw [updN_other _ _ e] at hb
      exact List.mem_cons_of_mem _ (h.rT c hc b hb)
  · by_cases e : c = cc
    · subst e
      rw [updN_same]
      intro hm
      rcases List.mem_cons.1 hm with rfl | hm
      · rcases hg with hg | hg
        · exact h.aR c hc hg
        · omega
      · exact h.aR c hc hm
    · rw [updN_other _ _ e]; exact h.aR c hc
  · by_cases e : c = cc
    · subst e
      rw [updN_same] at hb
      rw [updN_other _ _ (Ne.symm hcd)]
      rcases List.mem_cons.1 hb with rfl | hb
      · rcases hg with hg | hg
        · exact h.ap c d hc hd hcd _ hg
        · exact fun hm => by have := hT _ (h.rT d hd _ hm); omega
      · exact h.ap c d hc hd hcd b hb
    · rw [updN_other _ _ e] at hb
      by_cases e2 : d = cc
      · subst e2
        rw [updN_same]
        intro hm
        rcases List.mem_cons.1 hm with rfl | hm
        · rcases hg with hg | hg
          · exact h.ap c d hc hd hcd _ hb hg
          · have := hT _ (h.rT c hc _ hb); omega
        · exact h.ap c d hc hd hcd b hb hm
      · rw [updN_other _ _ e2]; exact h.ap c d hc hd hcd b hb
theorem TG.ks {G : Nat → Option Ob} {xs : List Int} {j : Nat} (h : TG G xs j) (hj : j ≤ xs.length) (hl : j ≤ 1000) : ∀ k o', G k = some o' → o'.ks.length ≤ 1000 := fun k o' hk => by
  by_cases e : k = 1
  · subst e
    obtain ⟨b, hb⟩ := h.root
    rw [hb] at hk
    injection hk with hk
    rw [← hk]; simpa using hl
  · by_cases hm : k < 2 ∨ j + 2 ≤ k
    · rw [h.out k e hm] at hk; cases hk
    · obtain ⟨i, rfl⟩ : ∃ i, k = i + 2 := ⟨k - 2, by omega⟩
      obtain ⟨x, hx⟩ : ∃ x, xs[i]? = some x := ⟨_, List.getElem?_eq_getElem (by omega)⟩
      obtain ⟨o, ho, _, h2, _⟩ := h.kid i x (by omega) hx
      rw [ho] at hk
      injection hk with hk
      rw [← hk, h2]; exact Nat.zero_le _
theorem TG.mem {G : Nat → Option Ob} {xs : List Int} {j i y : Nat} {c : Nat} (h : TG G xs j) (hj : j ≤ xs.length) (hy : (wnt xs c j)[i]? = some y) : ∃ o, G y = some o := by
  have hm := List.mem_of_getElem? hy
  unfold wnt at hm
  obtain ⟨k, hk, he⟩ := List.mem_filterMap.1 hm
  have hk := List.mem_range.1 hk
  unfold wf at he
  obtain ⟨x, hx⟩ : ∃ x, xs[k]? = some x := ⟨_, List.getElem?_eq_getElem (by omega)⟩
  rw [hx] at he
  simp only at he
  split at he
  · injection he with he
    obtain ⟨o, ho, _⟩ := h.kid k x hk hx
    exact ⟨o, by rw [← he]; exact ho⟩
  · cases he
theorem TG.notc {G : Nat → Option Ob} {xs : List Int} {j k : Nat} (h : TG G xs j) (hj : j ≤ xs.length) (hk : k ≠ 1) (on : Int) : thrN G k on = [] := by
  have : ctr G k = none := by
    by_cases hm : k < 2 ∨ j + 2 ≤ k
    · unfold ctr; rw [h.out k hk hm]; rfl
    · obtain ⟨i, rfl⟩ : ∃ i, k = i + 2 := ⟨k - 2, by omega⟩
      obtain ⟨x, hx⟩ : ∃ x, xs[i]? = some x := ⟨_, List.getElem?_eq_getElem (by omega)⟩
      obtain ⟨o, ho, _, _, h3, _⟩ := h.kid i x (by omega) hx
      unfold ctr
      rw [ho, Option.filter_some, if_neg (by simpa using h3)]
  unfold thrN
  rw [this]
theorem WS.drewN {T : List Nat} {A0 : Nat} {xs : List Int} {j : Nat} {vs : Nat → Value} {R : Nat → List Nat} {w : World} (h : WS T A0 xs j vs R w) (q : Nat) : WS T A0 xs j vs R (w.drewN q) := ⟨h.a, h.aT, h.r, h.rT, h.aR, h.ap⟩
theorem LR.drewN' {α : Type} {enc : α → Value} {w : World} {A : Option Addr} {ys : List α} (h : LR enc w A ys) (q : Nat) : LR enc (w.drewN q) A ys := h
theorem TG.add {G : Nat → Option Ob} {xs : List Int} {j : Nat} {x : Int} {o : Ob} (h : TG G xs j) (hx : xs[j]? = some x) (h1 : o.hm = 1) (h2 : o.ks = []) (h3 : o.kd ≠ 1) (h4 : ∀ c : Int, runs o c = (odd x && core x == c)) :
    may G (j + 2) o = true ∧ TG (addG G (j + 2) o) xs (j + 1) := by
  obtain ⟨b1, hb1⟩ := h.root
  have hc : ctr G 1 = some ⟨b1, 1, 0, (List.range j).map (· + 2), none, 0⟩ := by unfold ctr; rw [hb1]; rfl
  have hG := h.out (j + 2) (by omega) (.inr (Nat.le_refl _))
  have hf : ((List.range j).map (· + 2)).filter (· != j + 2) = (List.range j).map (· + 2) := List.filter_eq_self.2 fun y hy => by
    obtain ⟨i, hi, rfl⟩ := List.mem_map.1 hy
    have := List.mem_range.1 hi
    simp; omega
  refine ⟨?_, ?_⟩
  · unfold may
    rw [h1]
    simp [hG, hc]
  · have he : addG G (j + 2) o = updN (updN G 1 (some ⟨b1, 1, 0, (List.range (j + 1)).map (· + 2), none, 0⟩)) (j + 2) (some o) := by
      unfold addG
      rw [h1]
      simp only [hc, hf]
      rw [List.range_succ, List.map_append]; rfl
    rw [he]
    refine ⟨⟨b1, ?_⟩, fun i y hi hy => ?_, fun k h5 h6 => ?_⟩
    · rw [updN_other _ _ (by omega), updN_same]
    · by_cases e : i = j
      · subst e
        rw [hx] at hy
        injection hy with hy
        subst hy
        exact ⟨o, updN_same _ _ _, h1, h2, h3, h4⟩
      · rw [updN_other _ _ (by omega), updN_other _ _ (by omega)]
        exact h.kid i y (by omega) hy
    · rw [updN_other _ _ (by omega), updN_other _ _ h5]
      exact h.out k h5 (by omega)
end Go.Proofs.Ytodionedjokdmaa
