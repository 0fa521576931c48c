/- Who ranges over an iterator: the two laws. -/
import Derived.Test.YtliljicmkgbfpaaJa
set_option linter.unusedVariables false
set_option linter.unusedSimpArgs false
namespace Go.Proofs.Ytliljicmkgbfpaa
open Go.RowKit
set_option linter.unusedVariables false
set_option linter.unusedSimpArgs false
variable {P : Program} {α : Type}
theorem Grows.less {J : List Nat → List α → World → Prop} (h : Grows J) {T T' : List Nat} {s : List α} {w : World} (hs : J T s w) (hT : ∀ b ∈ T, b < w.heap.size) (hsub : ∀ b ∈ T', b ∈ T) : J T' s w :=
  h T T' s w w hs hT (Turn.refl _ _) (fun b hb => ⟨.inl (hsub b hb), hT b (hsub b hb)⟩)
theorem Grows.more {J : List Nat → List α → World → Prop} (h : Grows J) {T T' : List Nat} {s : List α} {w w' : World} (hs : J T s w) (hT : ∀ b ∈ T, b < w.heap.size) (hb : Below w.heap.size w w') (hn : New T T' w w') : J T' s w' :=
  h T T' s w w' hs hT (Turn.of_below hb) hn
theorem range_out {g : Operand} {ps : Array Tmp} {assign body : Code} {Q : Exit → Act → World → Prop} {a : Act} {w : World} {n m : Nat} {gf : Nat} {lb : Array Value} (hg : a.eval g = .func (.func gf) #[] lb) (eg : ∀ args w, (callFunc gf args).run P w = .ok (.enter gf args) w)
    {encs : α → Array Value} {T0 : List Nat} {V : List Nat → List α → World → Prop} {Z : World → Prop} {xs : List α} (hit : Iter P gf lb encs T0 V Z xs) (hps : ∀ x, (encs x).size = ps.size)
    (I : List Nat → List α → World → Prop) (Ix : Code → List Nat → List α → World → Prop) (hI : Grows I) (hIx : ∀ c, Grows (Ix c)) (hV : ∀ T pre W, (∀ b ∈ T, b < W.heap.size) → I T pre W → V T pre W)
    (T : List Nat) (hT : ∀ b ∈ T, b < w.heap.size) (hT0 : ∀ b ∈ T0, b ∈ T) (hZ : ∀ W', Below w.heap.size w W' → Z W') (h0 : I T [] w)
    (hR : Round P m a.tmps ps assign body encs I Ix xs)
    (hdone : ∀ (D : Nat) (W : World), w.heap.size ≤ D → D < W.heap.size → D ∉ T → I (D :: T) xs W → W.heap[D]? = some (.deferred (some [])) → Same T w W → Q .normal { a with defers := { target := .collected D, args := #[] } :: a.defers } W)
    (hstop : ∀ (D : Nat) (c : Code) (pre : List α) (W : World), w.heap.size ≤ D → D < W.heap.size → D ∉ T → pre <+: xs → Ix c (D :: T) pre W → W.heap[D]? = some (.deferred (some [])) → Same T w W → c.wpIn Fence.wide n P Q { a with defers := { target := .collected D, args := #[] } :: a.defers } W) :
    (Code.rangeFunc g ps assign body).wpIn Fence.wide n P Q a w := by
  refine wpIn_rangeFunc ?_
  intro fn hfn
  obtain ⟨rec, hrec⟩ : ∃ rec : LoopState → Option Code → Loop, rec = fun st pe => { state := st, pending := pe, fn, tmps := a.tmps, params := ps, assign, body, defers := w.heap.size } := ⟨_, rfl⟩
  obtain ⟨D, eD⟩ : ∃ D, w.heap.size = D := ⟨_, rfl⟩
  obtain ⟨l, el⟩ : ∃ l, w.heap.size + 1 = l := ⟨_, rfl⟩
  obtain ⟨W1, hW1⟩ : ∃ W1, (w.alloc (.deferred (some []))).alloc (.loop (rec .ready none)) = W1 := ⟨_, rfl⟩
  have hL1 : W1.heap[l]? = some (.loop (rec .ready none)) := by
    rw [← hW1, ← el]; have := World.alloc_heap_new (w.alloc (.deferred (some []))) (.loop (rec .ready none)); rwa [World.size_alloc] at this
  have hK1 : W1.heap[D]? = some (.deferred (some [])) := by
    rw [← hW1, ← eD]; exact (Below.heap_alloc _ _ _ (by simp)).trans (World.alloc_heap_new w _)
  have hb1 : Below w.heap.size w W1 := by rw [← hW1]; exact ((Below.refl _ w).alloc (Nat.le_refl _) _).alloc (by simp) _
  have hs1 : W1.heap.size = w.heap.size + 2 := by rw [← hW1]; simp
  have hlT : l ∉ T := fun h => by have := hT l h; omega
  have hDT : D ∉ T := fun h => by have := hT D h; omega
  have hT1 : ∀ b ∈ T, b < W1.heap.size := fun b hb => by have := hT b hb; omega
  have hTT : ∀ b ∈ l :: [D] ++ T, b < W1.heap.size := fun b hb => by
    rcases List.mem_append.1 hb with hb | hb
    · rcases List.mem_cons.1 hb with rfl | hb
      · omega
      · obtain rfl := List.mem_singleton.1 hb; omega
    · exact hT1 b hb
  have hI1 : I (l :: [D] ++ T) [] W1 := hI.more h0 hT hb1 (fun b hb => ⟨by
    rcases List.mem_append.1 hb with hb | hb
    · rcases List.mem_cons.1 hb with rfl | hb
      · exact .inr (by omega)
      · obtain rfl := List.mem_singleton.1 hb; exact .inr (by omega)
    · exact .inl hb, hTT b hb⟩)
  have hS1 : Same T w W1 := fun b hb => hb1.block b (hT b hb)
  have grow : ∀ (J : List Nat → List α → World → Prop), Grows J → ∀ S S' s X Y, J (l :: [D] ++ S) s X → (∀ b ∈ S, b < X.heap.size) → l ∉ S → D ∉ S → l < X.heap.size → D < X.heap.size → Turn S X Y → New S S' X Y → J (l :: [D] ++ S') s Y ∧ l ∉ S' ∧ D ∉ S' ∧ Y.heap[l]? = X.heap[l]? ∧ Y.heap[D]? = X.heap[D]? := by
    intro J hJ S S' s X Y hs hS h1 h2 h3 h4 ht hn
    refine ⟨hJ _ _ _ _ _ hs (fun b hb => ?_) (ht.mono (fun b hb => by simp [hb])) (fun b hb => ?_), fun h => ?_, fun h => ?_, ht.block l h3 h1, ht.block D h4 h2⟩
    · rcases List.mem_append.1 hb with hb | hb
      · rcases List.mem_cons.1 hb with rfl | hb
        · exact h3
        · obtain rfl := List.mem_singleton.1 hb; exact h4
      · exact hS b hb
    · rcases List.mem_append.1 hb with hb | hb
      · rcases List.mem_cons.1 hb with rfl | hb
        · exact ⟨.inl (by simp), Nat.lt_of_lt_of_le h3 ht.size⟩
        · obtain rfl := List.mem_singleton.1 hb; exact ⟨.inl (by simp), Nat.lt_of_lt_of_le h4 ht.size⟩
      · obtain ⟨e1, e2⟩ := hn b hb
        exact ⟨by rcases e1 with e1 | e1; exact .inl (by simp [e1]); exact .inr e1, e2⟩
    · rcases (hn l h).1 with e | e; exact h1 e; omega
    · rcases (hn D h).1 with e | e; exact h2 e; omega
  refine ⟨l, [{ target := .collected D, args := #[] }], W1, { target := .fn (.func gf) lb, args := #[.func (.yield l) #[] #[]] }, W1, gf, #[.func (.yield l) #[] #[]] ++ lb, W1, ?_, ?_, ?_, ?_, (fun h => by cases h), ?_⟩
  · rw [← hW1, hrec, ← el, ← eD]; exact run_enterLoop_outer _ _ _ _ _
  · simp only [resolve, hg]
    simp [go_sem]
  · intro f' hf'; exact trivial
  · simp [invoke, go_sem, eg]
  · refine callsIn_wide.2 ((hit l m
      (fun S pre W => I (l :: [D] ++ S) pre W ∧ l ∉ S ∧ D ∉ S ∧ W.heap[l]? = some (.loop (rec .ready none)) ∧ W.heap[D]? = some (.deferred (some [])))
      (fun S pre W => ∃ c, Ix c (l :: [D] ++ S) pre W ∧ l ∉ S ∧ D ∉ S ∧ W.heap[l]? = some (.loop (rec .done (some c))) ∧ W.heap[D]? = some (.deferred (some [])))
      ?_ ?_ ?_ ?_ T W1 hT0 hT1 (hZ _ hb1) ⟨hI1, hlT, hDT, hL1, hK1⟩).mono ?_)
    · rintro S S' s X Y ⟨h1, h2, h3, h4, h5⟩ hS ht hn
      obtain ⟨e1, e2, e3, e4, e5⟩ := grow I hI S S' s X Y h1 hS h2 h3 (Array.getElem?_eq_some_iff.1 h4).1 (Array.getElem?_eq_some_iff.1 h5).1 ht hn
      exact ⟨e1, e2, e3, e4.trans h4, e5.trans h5⟩
    · rintro S S' s X Y ⟨c, h1, h2, h3, h4, h5⟩ hS ht hn
      obtain ⟨e1, e2, e3, e4, e5⟩ := grow (Ix c) (hIx c) S S' s X Y h1 hS h2 h3 (Array.getElem?_eq_some_iff.1 h4).1 (Array.getElem?_eq_some_iff.1 h5).1 ht hn
      exact ⟨c, e1, e2, e3, e4.trans h4, e5.trans h5⟩
    · rintro S pre W hS ⟨h1, h2, h3, h4, h5⟩
      refine hV S pre W hS (hI.less h1 (fun b hb => ?_) (fun b hb => by simp [hb]))
      rcases List.mem_append.1 hb with hb | hb
      · rcases List.mem_cons.1 hb with rfl | hb
        · exact (Array.getElem?_eq_some_iff.1 h4).1
        · obtain rfl := List.mem_singleton.1 hb; exact (Array.getElem?_eq_some_iff.1 h5).1
      · exact hS b hb
    · rintro S pre x W _ hS hx ⟨h1, h2, h3, h4, h5⟩
      have hD : D < W.heap.size := (Array.getElem?_eq_some_iff.1 h5).1
      refine (yield_of hR hI hIx hps fn w.heap.size l rec hrec S pre x W hS hx h2 [D] (fun b hb => ?_) h1 h4).mono ?_
      · obtain rfl := List.mem_singleton.1 hb
        exact ⟨by simp, by omega, hD⟩
      · rintro e W' (⟨he, ⟨k1, k2, k3⟩, k4⟩ | ⟨he, ⟨c, k1, k2, k3⟩, k4⟩)
        · exact .inl ⟨he, ⟨k1, h2, h3, k2, (k3 D (by simp)).trans h5⟩, k4⟩
        · exact .inr ⟨he, ⟨c, k1, h2, h3, k2, (k3 D (by simp)).trans h5⟩, k4⟩
    · rintro e W2 ⟨⟨v, rfl⟩, (⟨⟨h1, h2, h3, h4, h5⟩, hsm⟩ | ⟨pre, hpre, ⟨c, h1, h2, h3, h4, h5⟩, hsm⟩)⟩
      all_goals
        have hl : l < W2.heap.size := (Array.getElem?_eq_some_iff.1 h4).1
        have hD : D < W2.heap.size := (Array.getElem?_eq_some_iff.1 h5).1
        have hS2 : ∀ b ∈ T, b < W2.heap.size := fun b hb => by
          have := hsm b hb
          rw [Array.getElem?_eq_getElem (hT1 b hb)] at this
          exact (Array.getElem?_eq_some_iff.1 this).1
        have hTT2 : ∀ b ∈ l :: [D] ++ T, b < W2.heap.size := fun b hb => by
          rcases List.mem_append.1 hb with hb | hb
          · rcases List.mem_cons.1 hb with rfl | hb
            · exact hl
            · obtain rfl := List.mem_singleton.1 hb; exact hD
          · exact hS2 b hb
      · refine ⟨none, _, by have := run_endLoop (P := P) h4 (by rw [hrec]; simp); rw [hrec] at this; exact this, ?_⟩
        refine hdone D _ (by omega) (by simpa using hD) hDT (hI _ _ _ _ _ h1 hTT2 ((Turn.put _ _ _).mono (by simp)) (fun b hb => ⟨.inl (by simp at hb ⊢; rcases hb with hb | hb <;> simp [hb]), by
          rcases List.mem_cons.1 hb with rfl | hb
          · simpa using hD
          · simpa using hS2 b hb⟩)) ((World.putObj_heap_other (by omega)).trans h5) (fun b hb => ?_)
        have hne : b ≠ l := fun e => by subst e; exact hlT hb
        rw [World.putObj_heap_other hne]; exact (hsm b hb).trans (hS1 b hb)
      · refine ⟨some c, _, by have := run_endLoop (P := P) h4 (by rw [hrec]; simp); rw [hrec] at this; exact this, ?_⟩
        refine hstop D c pre _ (by omega) (by simpa using hD) hDT hpre (hIx c _ _ _ _ _ h1 hTT2 ((Turn.put _ _ _).mono (by simp)) (fun b hb => ⟨.inl (by simp at hb ⊢; rcases hb with hb | hb <;> simp [hb]), by
          rcases List.mem_cons.1 hb with rfl | hb
          · simpa using hD
          · simpa using hS2 b hb⟩)) ((World.putObj_heap_other (by omega)).trans h5) (fun b hb => ?_)
        have hne : b ≠ l := fun e => by subst e; exact hlT hb
        rw [World.putObj_heap_other hne]; exact (hsm b hb).trans (hS1 b hb)
theorem range_in {g : Operand} {ps : Array Tmp} {assign body : Code} {Q : Exit → Act → World → Prop} {a : Act} {w : World} {n m : Nat} {l₀ : Nat} {r₀ : Loop} (hl₀ : w.heap[l₀]? = some (.loop r₀)) {gf : Nat} {lb : Array Value} (hg : a.eval g = .func (.func gf) #[] lb) (eg : ∀ args w, (callFunc gf args).run P w = .ok (.enter gf args) w)
    {encs : α → Array Value} {T0 : List Nat} {V : List Nat → List α → World → Prop} {Z : World → Prop} {xs : List α} (hit : Iter P gf lb encs T0 V Z xs) (hps : ∀ x, (encs x).size = ps.size)
    (I : List Nat → List α → World → Prop) (Ix : Code → List Nat → List α → World → Prop) (hI : Grows I) (hIx : ∀ c, Grows (Ix c)) (hV : ∀ T pre W, (∀ b ∈ T, b < W.heap.size) → I T pre W → V T pre W)
    (T : List Nat) (hT : ∀ b ∈ T, b < w.heap.size) (hT0 : ∀ b ∈ T0, b ∈ T) (hZ : ∀ W', Below w.heap.size w W' → Z W') (h0 : I T [] w)
    (hR : Round P m a.tmps ps assign body encs I Ix xs)
    (hdone : ∀ (W : World), w.heap.size ≤ W.heap.size → I T xs W → Same T w W → Q .normal a W)
    (hstop : ∀ (c : Code) (pre : List α) (W : World), w.heap.size ≤ W.heap.size → pre <+: xs → Ix c T pre W → Same T w W → c.wpIn (Fence.wide.inRound l₀) n P Q a W) :
    (Code.rangeFunc g ps assign body).wpIn (Fence.wide.inRound l₀) n P Q a w := by
  refine wpIn_rangeFunc ?_
  intro fn hfn
  obtain ⟨rec, hrec⟩ : ∃ rec : LoopState → Option Code → Loop, rec = fun st pe => { state := st, pending := pe, fn, tmps := a.tmps, params := ps, assign, body, defers := r₀.defers } := ⟨_, rfl⟩
  obtain ⟨l, el⟩ : ∃ l, w.heap.size = l := ⟨_, rfl⟩
  obtain ⟨W1, hW1⟩ : ∃ W1, w.alloc (.loop (rec .ready none)) = W1 := ⟨_, rfl⟩
  have hL1 : W1.heap[l]? = some (.loop (rec .ready none)) := by rw [← hW1, ← el]; exact World.alloc_heap_new w _
  have hb1 : Below w.heap.size w W1 := by rw [← hW1]; exact (Below.refl _ w).alloc (Nat.le_refl _) _
  have hs1 : W1.heap.size = w.heap.size + 1 := by rw [← hW1]; simp
  have hlT : l ∉ T := fun h => by have := hT l h; omega
  have hT1 : ∀ b ∈ T, b < W1.heap.size := fun b hb => by have := hT b hb; omega
  have hTT : ∀ b ∈ l :: [] ++ T, b < W1.heap.size := fun b hb => by
    rcases List.mem_cons.1 hb with rfl | hb
    · omega
    · exact hT1 b hb
  have hI1 : I (l :: [] ++ T) [] W1 := hI.more h0 hT hb1 (fun b hb => ⟨by
    rcases List.mem_cons.1 hb with rfl | hb
    · exact .inr (by omega)
    · exact .inl hb, hTT b hb⟩)
  have hS1 : Same T w W1 := fun b hb => hb1.block b (hT b hb)
  have grow : ∀ (J : List Nat → List α → World → Prop), Grows J → ∀ S S' s X Y, J (l :: [] ++ S) s X → (∀ b ∈ S, b < X.heap.size) → l ∉ S → l < X.heap.size → Turn S X Y → New S S' X Y → J (l :: [] ++ S') s Y ∧ l ∉ S' ∧ Y.heap[l]? = X.heap[l]? := by
    intro J hJ S S' s X Y hs hS h1 h3 ht hn
    refine ⟨hJ _ _ _ _ _ hs (fun b hb => ?_) (ht.mono (fun b hb => by simp [hb])) (fun b hb => ?_), fun h => ?_, ht.block l h3 h1⟩
    · rcases List.mem_cons.1 hb with rfl | hb
      · exact h3
      · exact hS b hb
    · rcases List.mem_cons.1 hb with rfl | hb
      · exact ⟨.inl (by simp), Nat.lt_of_lt_of_le h3 ht.size⟩
      · obtain ⟨e1, e2⟩ := hn b hb
        exact ⟨by rcases e1 with e1 | e1; exact .inl (List.mem_cons_of_mem _ e1); exact .inr e1, e2⟩
    · rcases (hn l h).1 with e | e; exact h1 e; omega
  refine ⟨l, [], W1, { target := .fn (.func gf) lb, args := #[.func (.yield l) #[] #[]] }, W1, gf, #[.func (.yield l) #[] #[]] ++ lb, W1, ?_, ?_, ?_, ?_, (fun h => by cases h), ?_⟩
  · rw [← hW1, hrec, ← el]; exact run_enterLoop_inner hl₀ _ _ _ _ _
  · simp only [resolve, hg]
    simp [go_sem]
  · intro f' hf'; exact trivial
  · simp [invoke, go_sem, eg]
  · refine CallsIn.inRound l₀ (callsIn_wide.2 ((hit l m
      (fun S pre W => I (l :: [] ++ S) pre W ∧ l ∉ S ∧ W.heap[l]? = some (.loop (rec .ready none)))
      (fun S pre W => ∃ c, Ix c (l :: [] ++ S) pre W ∧ l ∉ S ∧ W.heap[l]? = some (.loop (rec .done (some c))))
      ?_ ?_ ?_ ?_ T W1 hT0 hT1 (hZ _ hb1) ⟨hI1, hlT, hL1⟩).mono ?_))
    · rintro S S' s X Y ⟨h1, h2, h4⟩ hS ht hn
      obtain ⟨e1, e2, e4⟩ := grow I hI S S' s X Y h1 hS h2 (Array.getElem?_eq_some_iff.1 h4).1 ht hn
      exact ⟨e1, e2, e4.trans h4⟩
    · rintro S S' s X Y ⟨c, h1, h2, h4⟩ hS ht hn
      obtain ⟨e1, e2, e4⟩ := grow (Ix c) (hIx c) S S' s X Y h1 hS h2 (Array.getElem?_eq_some_iff.1 h4).1 ht hn
      exact ⟨c, e1, e2, e4.trans h4⟩
    · rintro S pre W hS ⟨h1, h2, h4⟩
      refine hV S pre W hS (hI.less h1 (fun b hb => ?_) (fun b hb => List.mem_cons_of_mem _ hb))
      rcases List.mem_cons.1 hb with rfl | hb
      · exact (Array.getElem?_eq_some_iff.1 h4).1
      · exact hS b hb
    · rintro S pre x W _ hS hx ⟨h1, h2, h4⟩
      refine (yield_of hR hI hIx hps fn r₀.defers l rec hrec S pre x W hS hx h2 [] (fun b hb => by cases hb) h1 h4).mono ?_
      rintro e W' (⟨he, ⟨k1, k2, k3⟩, k4⟩ | ⟨he, ⟨c, k1, k2, k3⟩, k4⟩)
      · exact .inl ⟨he, ⟨k1, h2, k2⟩, k4⟩
      · exact .inr ⟨he, ⟨c, k1, h2, k2⟩, k4⟩
    · rintro e W2 ⟨⟨v, rfl⟩, (⟨⟨h1, h2, h4⟩, hsm⟩ | ⟨pre, hpre, ⟨c, h1, h2, h4⟩, hsm⟩)⟩
      all_goals
        have hl : l < W2.heap.size := (Array.getElem?_eq_some_iff.1 h4).1
        have hS2 : ∀ b ∈ T, b < W2.heap.size := fun b hb => by
          have := hsm b hb
          rw [Array.getElem?_eq_getElem (hT1 b hb)] at this
          exact (Array.getElem?_eq_some_iff.1 this).1
        have hTT2 : ∀ b ∈ l :: [] ++ T, b < W2.heap.size := fun b hb => by
          rcases List.mem_cons.1 hb with rfl | hb
          · exact hl
          · exact hS2 b hb
      · refine ⟨none, _, by have := run_endLoop (P := P) h4 (by rw [hrec]; simp); rw [hrec] at this; exact this, ?_⟩
        refine hdone _ (by simp; omega) (hI _ _ _ _ _ h1 hTT2 ((Turn.put _ _ _).mono (by simp)) (fun b hb => ⟨.inl (List.mem_cons_of_mem _ hb), by simpa using hS2 b hb⟩)) (fun b hb => ?_)
        have hne : b ≠ l := fun e => by subst e; exact hlT hb
        rw [World.putObj_heap_other hne]; exact (hsm b hb).trans (hS1 b hb)
      · refine ⟨some c, _, by have := run_endLoop (P := P) h4 (by rw [hrec]; simp); rw [hrec] at this; exact this, ?_⟩
        refine hstop c pre _ (by simp; omega) hpre (hIx c _ _ _ _ _ h1 hTT2 ((Turn.put _ _ _).mono (by simp)) (fun b hb => ⟨.inl (List.mem_cons_of_mem _ hb), by simpa using hS2 b hb⟩)) (fun b hb => ?_)
        have hne : b ≠ l := fun e => by subst e; exact hlT hb
        rw [World.putObj_heap_other hne]; exact (hsm b hb).trans (hS1 b hb)
end Go.Proofs.Ytliljicmkgbfpaa
