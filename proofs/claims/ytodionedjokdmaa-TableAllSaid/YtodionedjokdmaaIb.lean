/- Who ranges over an iterator: the two laws. -/
import Derived.Test.YtodionedjokdmaaIa
set_option linter.unusedVariables false
set_option linter.unusedSimpArgs false
namespace Go.Proofs.Ytodionedjokdmaa
open Go.RowKit
set_option linter.unusedVariables false
set_option linter.unusedSimpArgs false
variable {P : Program} {α : Type}
theorem range_out {g : Operand} {ps : Array Tmp} {assign body : Code} {Q : Exit → Act → World → Prop} {a : Act} {w : World} {n m : Nat} {gf : Nat} {pb lb : Array Value} (hg : a.eval g = .func (.func gf) pb lb) (eg : ∀ args w, (callFunc gf args).run P w = .ok (.enter gf args) w)
    {encs : α → Array Value} {own : α → List Nat} {T0 : List Nat} {X : List α → α → World → Prop} {Z : World → Prop} {Fin : List α → Prop} (hit : Iter P gf pb lb encs own T0 X Z Fin) (hps : ∀ x, (encs x).size = ps.size)
    (I : List Nat → List α → World → Prop) (Ix : Code → List Nat → List α → World → Prop) (hI : Grows I) (hIx : ∀ c, Grows (Ix c))
    (T : List Nat) (hT : ∀ b ∈ T, b < w.heap.size) (hT0 : ∀ b ∈ T0, b ∈ T) (hZ : ∀ W', Below w.heap.size w W' → Z W') (h0 : I T [] w)
    (hR : Round P m a.tmps ps assign body encs own X I Ix)
    (hdone : ∀ (D : Nat) (xs : List α) (W : World), Fin xs → w.heap.size ≤ D → D < W.heap.size → D ∉ T → I (D :: T) xs W → W.heap[D]? = some (.deferred (some [])) → Same T w W → Q .normal { a with defers := { target := .collected D, args := #[] } :: a.defers } W)
    (hstop : ∀ (D : Nat) (c : Code) (pre : List α) (W : World), w.heap.size ≤ D → D < W.heap.size → D ∉ T → Ix c (D :: T) pre W → W.heap[D]? = some (.deferred (some [])) → Same T w W → c.wpIn Fence.wide n P Q { a with defers := { target := .collected D, args := #[] } :: a.defers } W) :
    (Code.rangeFunc g ps assign body).wpIn Fence.wide n P Q a w := by
  refine wpIn_rangeFunc ?_
  intro fn hfn
  obtain ⟨rec, hrec⟩ : ∃ rec : LoopState → Option Code → Loop, rec = fun st pe => { state := st, pending := pe, fn, tmps := a.tmps, params := ps, assign, body, defers := w.heap.size } := ⟨_, rfl⟩
  obtain ⟨D, eD⟩ : ∃ D, w.heap.size = D := ⟨_, rfl⟩
  obtain ⟨l, el⟩ : ∃ l, w.heap.size + 1 = l := ⟨_, rfl⟩
  obtain ⟨W1, hW1⟩ : ∃ W1, (w.alloc (.deferred (some []))).alloc (.loop (rec .ready none)) = W1 := ⟨_, rfl⟩
  have hL1 : W1.heap[l]? = some (.loop (rec .ready none)) := by
    rw [← hW1, ← el]; have := World.alloc_heap_new (w.alloc (.deferred (some []))) (.loop (rec .ready none)); rwa [World.size_alloc] at this
  have hK1 : W1.heap[D]? = some (.deferred (some [])) := by
    rw [← hW1, ← eD]; exact (Below.heap_alloc _ _ _ (by simp)).trans (World.alloc_heap_new w _)
  have hb1 : Below w.heap.size w W1 := by rw [← hW1]; exact ((Below.refl _ w).alloc (Nat.le_refl _) _).alloc (by simp) _
  have hs1 : W1.heap.size = w.heap.size + 2 := by rw [← hW1]; simp
  have hlT : l ∉ T := fun h => by have := hT l h; omega
  have hDT : D ∉ T := fun h => by have := hT D h; omega
  have hT1 : ∀ b ∈ T, b < W1.heap.size := fun b hb => by have := hT b hb; omega
  have hTT : ∀ b ∈ l :: [D] ++ T, b < W1.heap.size := fun b hb => by
    rcases List.mem_append.1 hb with hb | hb
    · rcases List.mem_cons.1 hb with rfl | hb
      · omega
      · obtain rfl := List.mem_singleton.1 hb; omega
    · exact hT1 b hb
  have hI1 : I (l :: [D] ++ T) [] W1 := hI.more h0 hT hb1 (fun b hb => ⟨by
    rcases List.mem_append.1 hb with hb | hb
    · rcases List.mem_cons.1 hb with rfl | hb
      · exact .inr (by omega)
      · obtain rfl := List.mem_singleton.1 hb; exact .inr (by omega)
    · exact .inl hb, hTT b hb⟩)
  have hS1 : Same T w W1 := fun b hb => hb1.block b (hT b hb)
  have grow : ∀ (J : List Nat → List α → World → Prop), Grows J → ∀ S S' s X Y, J (l :: [D] ++ S) s X → (∀ b ∈ S, b < X.heap.size) → l ∉ S → D ∉ S → l < X.heap.size → D < X.heap.size → Turn S X Y → New S S' X Y → J (l :: [D] ++ S') s Y ∧ l ∉ S' ∧ D ∉ S' ∧ Y.heap[l]? = X.heap[l]? ∧ Y.heap[D]? = X.heap[D]? := by
    intro J hJ S S' s X Y hs hS h1 h2 h3 h4 ht hn
    refine ⟨hJ _ _ _ _ _ hs (fun b hb => ?_) (ht.mono (fun b hb => by simp [hb])) (fun b hb => ?_), fun h => ?_, fun h => ?_, ht.block l h3 h1, ht.block D h4 h2⟩
    · rcases List.mem_append.1 hb with hb | hb
      · rcases List.mem_cons.1 hb with rfl | hb
        · exact h3
        · obtain rfl := List.mem_singleton.1 hb; exact h4
      · exact hS b hb
    · rcases List.mem_append.1 hb with hb | hb
      · rcases List.mem_cons.1 hb with rfl | hb
        · exact ⟨.inl (by simp), Nat.lt_of_lt_of_le h3 ht.size⟩
        · obtain rfl := List.mem_singleton.1 hb; exact ⟨.inl (by simp), Nat.lt_of_lt_of_le h4 ht.size⟩
      · obtain ⟨e1, e2⟩ := hn b hb
        exact ⟨by rcases e1 with e1 | e1; exact .inl (by simp [e1]); exact .inr e1, e2⟩
    · rcases (hn l h).1 with e | e; exact h1 e; omega
    · rcases (hn D h).1 with e | e; exact h2 e; omega
  refine ⟨l, [{ target := .collected D, args := #[] }], W1, { target := .fn (.func gf) lb, args := pb ++ #[.func (.yield l) #[] #[]] }, W1, gf, pb ++ #[.func (.yield l) #[] #[]] ++ lb, W1, ?_, ?_, ?_, ?_, (fun h => by cases h), ?_⟩
  · rw [← hW1, hrec, ← el, ← eD]; exact run_enterLoop_outer _ _ _ _ _
  · simp only [resolve, hg]
    simp [go_sem]
  · intro f' hf'; exact trivial
  · simp [invoke, go_sem, eg]
  · refine callsIn_wide.2 ((hit l m
      (fun S pre W => I (l :: [D] ++ S) pre W ∧ l ∉ S ∧ D ∉ S ∧ W.heap[l]? = some (.loop (rec .ready none)) ∧ W.heap[D]? = some (.deferred (some [])))
      (fun S pre W => ∃ c, Ix c (l :: [D] ++ S) pre W ∧ l ∉ S ∧ D ∉ S ∧ W.heap[l]? = some (.loop (rec .done (some c))) ∧ W.heap[D]? = some (.deferred (some [])))
      ?_ ?_ ?_ T W1 hT0 hT1 (hZ _ hb1) ⟨hI1, hlT, hDT, hL1, hK1⟩).mono ?_)
    · rintro S S' s X Y ⟨h1, h2, h3, h4, h5⟩ hS ht hn
      obtain ⟨e1, e2, e3, e4, e5⟩ := grow I hI S S' s X Y h1 hS h2 h3 (Array.getElem?_eq_some_iff.1 h4).1 (Array.getElem?_eq_some_iff.1 h5).1 ht hn
      exact ⟨e1, e2, e3, e4.trans h4, e5.trans h5⟩
    · rintro S S' s X Y ⟨c, h1, h2, h3, h4, h5⟩ hS ht hn
      obtain ⟨e1, e2, e3, e4, e5⟩ := grow (Ix c) (hIx c) S S' s X Y h1 hS h2 h3 (Array.getElem?_eq_some_iff.1 h4).1 (Array.getElem?_eq_some_iff.1 h5).1 ht hn
      exact ⟨c, e1, e2, e3, e4.trans h4, e5.trans h5⟩
    · rintro S pre x W _ hox hS hx ⟨h1, h2, h3, h4, h5⟩
      have hD : D < W.heap.size := (Array.getElem?_eq_some_iff.1 h5).1
      refine (yield_of hR hI hIx hps fn w.heap.size l rec hrec S pre x W hS hox hx h2 [D] (fun b hb => ?_) h1 h4).mono ?_
      · obtain rfl := List.mem_singleton.1 hb
        exact ⟨fun h => h3 (List.mem_append_left _ h), by omega, hD⟩
      · rintro e W' (⟨he, ⟨k1, k2, k3⟩, k4⟩ | ⟨he, ⟨c, k1, k2, k3⟩, k4⟩)
        · exact .inl ⟨he, ⟨k1, fun h => h2 (List.mem_append_right _ h), fun h => h3 (List.mem_append_right _ h), k2, (k3 D (by simp)).trans h5⟩, k4⟩
        · exact .inr ⟨he, ⟨c, k1, fun h => h2 (List.mem_append_right _ h), fun h => h3 (List.mem_append_right _ h), k2, (k3 D (by simp)).trans h5⟩, k4⟩
    · rintro e W2 ⟨⟨v, rfl⟩, (⟨xs, hfin, ⟨h1, h2, h3, h4, h5⟩, hsm⟩ | ⟨pre, ⟨c, h1, h2, h3, h4, h5⟩, hsm⟩)⟩
      all_goals
        have hl : l < W2.heap.size := (Array.getElem?_eq_some_iff.1 h4).1
        have hD : D < W2.heap.size := (Array.getElem?_eq_some_iff.1 h5).1
        have hS2 : ∀ b ∈ T, b < W2.heap.size := fun b hb => by
          have := hsm b hb
          rw [Array.getElem?_eq_getElem (hT1 b hb)] at this
          exact (Array.getElem?_eq_some_iff.1 this).1
        have hTT2 : ∀ b ∈ l :: [D] ++ T, b < W2.heap.size := fun b hb => by
          rcases List.mem_append.1 hb with hb | hb
          · rcases List.mem_cons.1 hb with rfl | hb
            · exact hl
            · obtain rfl := List.mem_singleton.1 hb; exact hD
          · exact hS2 b hb
      · refine ⟨none, _, by have := run_endLoop (P := P) h4 (by rw [hrec]; simp); rw [hrec] at this; exact this, ?_⟩
        refine hdone D xs _ hfin (by omega) (by simpa using hD) hDT (hI _ _ _ _ _ h1 hTT2 ((Turn.put _ _ _).mono (by simp)) (fun b hb => ⟨.inl (by simp at hb ⊢; rcases hb with hb | hb <;> simp [hb]), by
          rcases List.mem_cons.1 hb with rfl | hb
          · simpa using hD
          · simpa using hS2 b hb⟩)) ((World.putObj_heap_other (by omega)).trans h5) (fun b hb => ?_)
        have hne : b ≠ l := fun e => by subst e; exact hlT hb
        rw [World.putObj_heap_other hne]; exact (hsm b hb).trans (hS1 b hb)
      · refine ⟨some c, _, by have := run_endLoop (P := P) h4 (by rw [hrec]; simp); rw [hrec] at this; exact this, ?_⟩
        refine hstop D c pre _ (by omega) (by simpa using hD) hDT (hIx c _ _ _ _ _ h1 hTT2 ((Turn.put _ _ _).mono (by simp)) (fun b hb => ⟨.inl (by simp at hb ⊢; rcases hb with hb | hb <;> simp [hb]), by
          rcases List.mem_cons.1 hb with rfl | hb
          · simpa using hD
          · simpa using hS2 b hb⟩)) ((World.putObj_heap_other (by omega)).trans h5) (fun b hb => ?_)
        have hne : b ≠ l := fun e => by subst e; exact hlT hb
        rw [World.putObj_heap_other hne]; exact (hsm b hb).trans (hS1 b hb)
theorem range_exit {g : Operand} {ps : Array Tmp} {assign body : Code} {Q : Exit → Act → World → Prop} {a : Act} {w : World} {n m : Nat} {gf : Nat} {pb lb : Array Value} (hg : a.eval g = .func (.func gf) pb lb) (eg : ∀ args w, (callFunc gf args).run P w = .ok (.enter gf args) w)
    {encs : α → Array Value} {own : α → List Nat} {T0 : List Nat} {X : List α → α → World → Prop} {Z : World → Prop} {Fin : List α → Prop} (hit : Iter P gf pb lb encs own T0 X Z Fin) (hps : ∀ x, (encs x).size = ps.size)
    (I : List Nat → List α → World → Prop) (Ix : Code → List Nat → List α → World → Prop) (hI : Grows I) (hIx : ∀ c, Grows (Ix c))
    (T : List Nat) (hT : ∀ b ∈ T, b < w.heap.size) (hT0 : ∀ b ∈ T0, b ∈ T) (hZ : ∀ W', Below w.heap.size w W' → Z W') (h0 : I T [] w)
    (hR : Round P m a.tmps ps assign body encs own X I Ix)
    (id : Nat) (hQ : ∀ a W, Q .normal a W → Q (.exit id) a W) (Rst : List Nat → World → Prop) (h1 : ∀ T xs X, Fin xs → I T xs X → Rst T X) (h2 : ∀ c T pre X, Ix c T pre X → c = .exit id ∧ Rst T X)
    (hrest : ∀ (D : Nat) (X : World), w.heap.size ≤ D → D < X.heap.size → D ∉ T → Rst (D :: T) X → X.heap[D]? = some (.deferred (some [])) → Same T w X → Q .normal { a with defers := { target := .collected D, args := #[] } :: a.defers } X) :
    (Code.rangeFunc g ps assign body).wpIn Fence.wide n P Q a w := by
  refine range_out (m := m) hg eg hit hps I Ix hI hIx T hT hT0 hZ h0 hR (fun D xs X hf h3 h4 h5 h6 h7 h8 => hrest D X h3 h4 h5 (h1 _ _ _ hf h6) h7 h8) (fun D c pre X h3 h4 h5 h6 h7 h8 => ?_)
  obtain ⟨rfl, hr⟩ := h2 c _ pre X h6
  exact wpIn_exit (hQ _ _ (hrest D X h3 h4 h5 hr h7 h8))
end Go.Proofs.Ytodionedjokdmaa
