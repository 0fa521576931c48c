/- A range over a function that hands over what it has made: the iterator's contract, and the laws for who goes over it. -/
import Derived.Test.YtodionedjokdmaaOl
import Derived.RangeFuncNested
import Derived.RangeFuncBound
import Derived.RangeFuncCalls
import Derived.RangeFuncLeaves
set_option linter.unusedVariables false
set_option linter.unusedSimpArgs false
namespace Go.Proofs.Ytodionedjokdmaa
open Go.RowKit
set_option linter.unusedVariables false
set_option linter.unusedSimpArgs false
theorem Turn.put (w : World) (l : Nat) (o : Obj) : Turn [l] w (w.putObj l o) := ⟨rfl, rfl, rfl, by simp, fun k _ hn => World.putObj_heap_other (by simpa using hn)⟩
theorem Turn.alloc (S : List Nat) (w : World) (o : Obj) : Turn S w (w.alloc o) := Turn.of_below (below_alloc1 w o)
/-- What others have from now on: what they had, and what is new. -/
def New (T T' : List Nat) (w w' : World) : Prop := ∀ b ∈ T', (b ∈ T ∨ w.heap.size ≤ b) ∧ b < w'.heap.size
/-- What speaks of nothing that others have. -/
def Grows {β : Type} (J : List Nat → β → World → Prop) : Prop := ∀ T T' s w w', J T s w → (∀ b ∈ T, b < w.heap.size) → Turn T w w' → New T T' w w' → J T' s w'
/-- An iterator: X tells what may come behind what came; what is handed over (own) is no longer among what others have; T0 is what is its own, Z what that holds; Fin: all has come. -/
def Iter {α : Type} (P : Program) (g : Nat) (pb lb : Array Value) (encs : α → Array Value) (own : α → List Nat) (T0 : List Nat) (X : List α → α → World → Prop) (Z : World → Prop) (Fin : List α → Prop) : Prop :=
  ∀ (l m : Nat) (J Jx : List Nat → List α → World → Prop), Grows J → Grows Jx →
    (∀ T pre x W1, (∀ b ∈ T0, b ∈ T) → (∀ b ∈ own x, b ∉ T) → (∀ b ∈ own x ++ T, b < W1.heap.size) → X pre x W1 → J (own x ++ T) pre W1 → YieldAt Fence.wide m P l (encs x) W1 fun e W' =>
      (e = .returned (.bool true) ∧ J T (pre ++ [x]) W' ∧ Same T W1 W') ∨ (e = .returned (.bool false) ∧ Jx T (pre ++ [x]) W' ∧ Same T W1 W')) →
    ∀ T W, (∀ b ∈ T0, b ∈ T) → (∀ b ∈ T, b < W.heap.size) → Z W → J T [] W →
    Calls P g (pb ++ #[.func (.yield l) #[] #[]] ++ lb) W fun e W' => (∃ v, e = .returned v) ∧ ((∃ xs, Fin xs ∧ J T xs W' ∧ Same T W W') ∨ ∃ pre, Jx T pre W' ∧ Same T W W')
/-- How a round may be left. -/
def roundOut {α : Type} (I : List Nat → List α → World → Prop) (Ix : Code → List Nat → List α → World → Prop) (T : List Nat) (xs : List α) (W : World) : Exit → Act → World → Prop
  | .normal, _, W' => Same T W W' ∧ I T xs W'
  | .ret, _, W' => Same T W W' ∧ Ix .ret T xs W'
  | .exit id, _, W' => Same T W W' ∧ Ix (.exit id) T xs W'
  | .goto t, _, W' => Same T W W' ∧ Ix (.goto t) T xs W'
  | .panic _, _, _ => False
  | .outgrown, _, _ => False
/-- One round, as who goes over it owes it. -/
def Round {α : Type} (P : Program) (m : Nat) (tmps : Array Value) (ps : Array Tmp) (assign body : Code) (encs : α → Array Value) (own : α → List Nat) (X : List α → α → World → Prop) (I : List Nat → List α → World → Prop) (Ix : Code → List Nat → List α → World → Prop) : Prop :=
  ∀ (l : Nat) (T : List Nat) (pre : List α) (x : α) (W : World), l ∈ T → (∃ r, W.heap[l]? = some (.loop r)) → (∀ b ∈ own x, b ∉ T) → (∀ b ∈ own x ++ T, b < W.heap.size) → X pre x W → I (own x ++ T) pre W →
    assign.wpIn (Fence.wide.inRound l) m P (Exit.then (fun a1 W1 => Same (own x ++ T) W W1 ∧ ∀ W2, Turn [l] W1 W2 → W2.heap.size = W1.heap.size → (∃ r, W2.heap[l]? = some (.loop r)) →
      body.wpIn (Fence.wide.inRound l) m P (roundOut I Ix T (pre ++ [x]) W2) a1 W2) (fun _ _ _ => False))
      { tmps := (ps.zip (encs x)).foldl (fun t (p, v) => t.setIfInBounds p v) tmps, defers := [] } W
theorem Grows.less {α : Type} {J : List Nat → List α → World → Prop} (h : Grows J) {T T' : List Nat} {s : List α} {w : World} (hs : J T s w) (hT : ∀ b ∈ T, b < w.heap.size) (hsub : ∀ b ∈ T', b ∈ T) : J T' s w :=
  h T T' s w w hs hT (Turn.refl _ _) (fun b hb => ⟨.inl (hsub b hb), hT b (hsub b hb)⟩)
theorem Grows.more {α : Type} {J : List Nat → List α → World → Prop} (h : Grows J) {T T' : List Nat} {s : List α} {w w' : World} (hs : J T s w) (hT : ∀ b ∈ T, b < w.heap.size) (hb : Below w.heap.size w w') (hn : New T T' w w') : J T' s w' :=
  h T T' s w w' hs hT (Turn.of_below hb) hn
variable {P : Program}
theorem yield_of {α : Type} {m : Nat} {tmps : Array Value} {ps : Array Tmp} {assign body : Code} {encs : α → Array Value} {own : α → List Nat} {X : List α → α → World → Prop} {I : List Nat → List α → World → Prop} {Ix : Code → List Nat → List α → World → Prop}
    (hR : Round P m tmps ps assign body encs own X I Ix) (hI : Grows I) (hIx : ∀ c, Grows (Ix c)) (hps : ∀ x, (encs x).size = ps.size) (fn : Nat) (D l : Nat) (rec : LoopState → Option Code → Loop) (hrec : rec = fun st pe => { state := st, pending := pe, fn, tmps := tmps, params := ps, assign, body, defers := D })
    (T : List Nat) (pre : List α) (x : α) (W : World) (hT : ∀ b ∈ own x ++ T, b < W.heap.size) (hox : ∀ b ∈ own x, b ∉ T) (hx : X pre x W) (hlT : l ∉ own x ++ T) (U : List Nat) (hU : ∀ b ∈ U, b ∉ own x ∧ b ≠ l ∧ b < W.heap.size) (hi : I (l :: U ++ (own x ++ T)) pre W) (hl : W.heap[l]? = some (.loop (rec .ready none))) :
    YieldAt Fence.wide m P l (encs x) W fun e W' =>
      (e = .returned (.bool true) ∧ (I (l :: U ++ T) (pre ++ [x]) W' ∧ W'.heap[l]? = some (.loop (rec .ready none)) ∧ Same U W W') ∧ Same T W W') ∨
      (e = .returned (.bool false) ∧ (∃ c, Ix c (l :: U ++ T) (pre ++ [x]) W' ∧ W'.heap[l]? = some (.loop (rec .done (some c))) ∧ Same U W W') ∧ Same T W W') := by
  have hy := run_yield (P := P) (args := encs x) hl (by rw [hrec]; exact hps x)
  rw [hrec] at hy
  have hlW : l < W.heap.size := (Array.getElem?_eq_some_iff.1 hl).1
  have hTT : ∀ b ∈ l :: U ++ T, b < W.heap.size := fun b hb => by
    rcases List.mem_append.1 hb with hb | hb
    · rcases List.mem_cons.1 hb with rfl | hb
      · exact hlW
      · exact (hU b hb).2.2
    · exact hT b (List.mem_append_right _ hb)
  have hlT' : l ∉ T := fun h => hlT (List.mem_append_right _ h)
  have hox' : ∀ b ∈ own x, b ∉ l :: U ++ T := fun b hb hm => by
    rcases List.mem_append.1 hm with hm | hm
    · rcases List.mem_cons.1 hm with rfl | hm
      · exact hlT (List.mem_append_left _ hb)
      · exact (hU b hm).1 hb
    · exact hox b hb hm
  have hTO : ∀ b ∈ own x ++ (l :: U ++ T), b < W.heap.size := fun b hb => by
    rcases List.mem_append.1 hb with hb | hb
    · exact hT b (List.mem_append_left _ hb)
    · exact hTT b hb
  have hTI : ∀ b ∈ l :: U ++ (own x ++ T), b < W.heap.size := fun b hb => by
    rcases List.mem_append.1 hb with hb | hb
    · exact hTT b (List.mem_append_left _ hb)
    · exact hT b hb
  have hi' : I (own x ++ (l :: U ++ T)) pre W := hI.less hi hTI fun b hb => by
    rcases List.mem_append.1 hb with hb | hb
    · exact List.mem_append_right _ (List.mem_append_left _ hb)
    · rcases List.mem_append.1 hb with hb | hb
      · exact List.mem_append_left _ hb
      · exact List.mem_append_right _ (List.mem_append_right _ hb)
  refine ⟨fn, _, assign, body, hy, roundIn_of_wpIn trivial (wpIn_mono (hR l (l :: U ++ T) pre x W (by simp) ⟨_, hl⟩ hox' hTO hx hi') ?_)⟩
  rintro e a1 W1 hp
  cases e with
  | normal =>
    obtain ⟨hs0, hb⟩ := hp
    have hs : Same (l :: U ++ T) W W1 := hs0.less fun b hb => List.mem_append_right _ hb
    have hl1 : W1.heap[l]? = some (.loop (rec .ready none)) := by rw [hs l (by simp)]; exact hl
    have hl1' : l < W1.heap.size := (Array.getElem?_eq_some_iff.1 hl1).1
    refine ⟨_, run_beginRound hl1 (by rw [hrec]), ?_⟩
    have hl2 : (W1.putObj l (.loop { rec .ready none with state := .busy })).heap[l]? = some (.loop { rec .ready none with state := .busy }) := World.putObj_heap_same hl1'
    refine wpIn_mono (hb _ (Turn.put _ _ _) (by simp) ⟨_, hl2⟩) ?_
    have fin : ∀ (jump : Option Code) (W3 : World), Same (l :: U ++ T) (W1.putObj l (.loop { rec .ready none with state := .busy })) W3 →
        (Instr.endRound l jump).run P W3 = .ok (.bool jump.isNone) (W3.putObj l (.loop (rec (if jump.isNone then .ready else .done) jump))) ∧
        (W3.putObj l (.loop (rec (if jump.isNone then .ready else .done) jump))).heap[l]? = some (.loop (rec (if jump.isNone then .ready else .done) jump)) ∧
        Same U W (W3.putObj l (.loop (rec (if jump.isNone then .ready else .done) jump))) ∧ Same T W (W3.putObj l (.loop (rec (if jump.isNone then .ready else .done) jump))) ∧
        New (l :: U ++ T) (l :: U ++ T) W3 (W3.putObj l (.loop (rec (if jump.isNone then .ready else .done) jump))) ∧ (∀ b ∈ l :: U ++ T, b < W3.heap.size) := fun jump W3 hk3 => by
      have hl3 := (hk3 l (by simp)).trans hl2
      have := run_endRound (P := P) jump hl3
      rw [hrec] at this ⊢
      have h9 : ∀ b ∈ l :: U ++ T, b ≠ l → W3.heap[b]? = W.heap[b]? := fun b hb hne => (hk3 b hb).trans ((World.putObj_heap_other hne).trans (hs b hb))
      have h8 : ∀ b ∈ l :: U ++ T, b < W3.heap.size := fun b hb => by
        by_cases hne : b = l
        · subst hne; exact (Array.getElem?_eq_some_iff.1 hl3).1
        · have := h9 b hb hne
          rw [Array.getElem?_eq_getElem (hTT b hb)] at this
          exact (Array.getElem?_eq_some_iff.1 this).1
      refine ⟨this, World.putObj_heap_same (h8 l (by simp)), fun b hb => ?_, fun b hb => ?_, fun b hb => ⟨.inl hb, by simpa using h8 b hb⟩, h8⟩
      · rw [World.putObj_heap_other (hU b hb).2.1]; exact h9 b (by simp [hb]) (hU b hb).2.1
      · have hne : b ≠ l := fun e => hlT' (e ▸ hb)
        rw [World.putObj_heap_other hne]; exact h9 b (by simp [hb]) hne
    have tm : ∀ (W3 : World) (o : Obj), Turn (l :: U ++ T) W3 (W3.putObj l o) := fun W3 o => (Turn.put W3 l o).mono (by simp)
    rintro e a3 W3 hp
    cases e with
    | normal =>
      obtain ⟨hk3, hi3⟩ := hp
      obtain ⟨hr, h1, h2, h3, h4, h5⟩ := fin none W3 hk3
      exact ⟨_, _, hr, .inl ⟨rfl, ⟨hI _ _ _ _ _ hi3 h5 (tm _ _) h4, h1, h2⟩, h3⟩⟩
    | ret =>
      obtain ⟨hk3, hi3⟩ := hp
      obtain ⟨hr, h1, h2, h3, h4, h5⟩ := fin (some .ret) W3 hk3
      exact ⟨_, _, hr, .inr ⟨rfl, ⟨_, hIx _ _ _ _ _ _ hi3 h5 (tm _ _) h4, h1, h2⟩, h3⟩⟩
    | exit id =>
      obtain ⟨hk3, hi3⟩ := hp
      obtain ⟨hr, h1, h2, h3, h4, h5⟩ := fin (some (.exit id)) W3 hk3
      exact ⟨_, _, hr, .inr ⟨rfl, ⟨_, hIx _ _ _ _ _ _ hi3 h5 (tm _ _) h4, h1, h2⟩, h3⟩⟩
    | goto t =>
      obtain ⟨hk3, hi3⟩ := hp
      obtain ⟨hr, h1, h2, h3, h4, h5⟩ := fin (some (.goto t)) W3 hk3
      exact ⟨_, _, hr, .inr ⟨rfl, ⟨_, hIx _ _ _ _ _ _ hi3 h5 (tm _ _) h4, h1, h2⟩, h3⟩⟩
    | panic ch => exact hp.elim
    | outgrown => exact hp.elim
  | exit id => exact hp.elim
  | goto t => exact hp.elim
  | ret => exact hp.elim
  | panic chain => exact hp.elim
  | outgrown => exact hp.elim
end Go.Proofs.Ytodionedjokdmaa
