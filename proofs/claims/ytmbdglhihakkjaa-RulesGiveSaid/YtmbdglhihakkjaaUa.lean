import Derived.Test.YtmbdglhihakkjaaSo
import Derived.Test.YtmbdglhihakkjaaSj
import Derived.Test.YtmbdglhihakkjaaRn
import Derived.Test.YtmbdglhihakkjaaNd
namespace Go
set_option linter.unusedVariables false
set_option linter.unusedSimpArgs false
variable {P : Program} {ops : Array Oper} {Q : Exit → Act → World → Prop} {md : Region.Mode}

theorem mem_ready_listed {L : Array Bool} {i : Nat} (h : i ∈ Region.ready md ops L) :
    L[i]? = some false ∧ ∃ o, ops[i]? = some o ∧ (o.after.all fun e => !Region.binds md e || L.getD e.on false) = true := by
  unfold Region.ready at h
  obtain ⟨h1, h2⟩ := List.mem_filter.1 h
  simp only [Bool.and_eq_true, Bool.not_eq_true'] at h2
  obtain ⟨h3, h4⟩ := h2
  constructor
  · rw [Array.getD_eq_getD_getElem?] at h3
    cases hL : L[i]? with
    | none => rw [hL] at h3; simp at h3
    | some b => rw [hL] at h3; simp at h3; rw [h3]
  · cases ho : ops[i]? with
    | none => rw [ho] at h4; simp at h4
    | some o => rw [ho] at h4; exact ⟨o, rfl, by simpa using h4⟩
theorem ready_of {L : Array Bool} {i : Nat} {o : Oper} (h1 : L[i]? = some false) (h2 : ops[i]? = some o) (h3 : (o.after.all fun e => !Region.binds md e || L.getD e.on false) = true) : i ∈ Region.ready md ops L := by
  unfold Region.ready
  refine List.mem_filter.2 ⟨List.mem_range.2 (Array.getElem?_eq_some_iff.1 h2).1, ?_⟩
  rw [Array.getD_eq_getD_getElem?, h1, h2]
  simpa using h3
/-- How many operations are still to come. -/
def todo (L : Array Bool) : Nat := L.toList.countP (fun b => !b)
theorem todo_set {L : Array Bool} {i : Nat} (h : L[i]? = some false) : todo (L.setIfInBounds i true) + 1 = todo L := by
  obtain ⟨hi, he⟩ := Array.getElem?_eq_some_iff.1 h
  unfold todo
  obtain ⟨l⟩ := L
  simp at hi he
  simp
  induction l generalizing i with
  | nil => simp at hi
  | cons b r ih =>
    cases i with
    | zero => simp at he; subst he; simp
    | succ i =>
      simp at hi he
      have := ih (i := i) (by simp [he, hi]) hi he
      simp only [List.set_cons_succ, List.countP_cons]
      omega
/-- A region that draws its order, by an invariant of what has been done. -/
theorem wpAny_inv (I : Array Bool → Act → World → Prop)
    (hstep : ∀ L a w i o, I L a w → ops[i]? = some o → L[i]? = some false → (o.after.all fun e => !Region.binds md e || L.getD e.on false) = true →
      ∀ K : Act → World → Prop, (∀ a' w', I (L.setIfInBounds i true) a' w' → K a' w') → if Region.wanted o (yielded ops a.tmps) = true then Oper.wp P o a w K Q else K (a.put o.dst undef) w)
    (hend : ∀ L a w, I L a w → Region.ready md ops L = [] → Q .normal a w) :
    ∀ fuel L a w, I L a w → todo L ≤ fuel → wpAny P md ops Q fuel L a w := by
  intro fuel
  induction fuel with
  | zero =>
    intro L a w h ht
    have hr : Region.ready md ops L = [] := by
      cases hr : Region.ready md ops L with
      | nil => rfl
      | cons i r =>
        have := todo_set (mem_ready_listed (md := md) (ops := ops) (L := L) (i := i) (by rw [hr]; simp)).1
        omega
    exact ⟨hr, hend L a w h hr⟩
  | succ fuel ih =>
    intro L a w h ht
    refine ⟨fun hr => hend L a w h hr, fun i hi => ?_⟩
    obtain ⟨h1, o, h2, h3⟩ := mem_ready_listed hi
    unfold wpOp
    rw [h2]
    have hs := hstep L a w i o h h2 h1 h3 (wpAny P md ops Q fuel (L.setIfInBounds i true)) (fun a' w' hI => ih _ _ _ hI (by have := todo_set h1; omega))
    dsimp only
    split
    · rename_i hw; rw [if_pos hw] at hs; exact .inl hs
    · rename_i hw; rw [if_neg hw] at hs; exact hs
end Go
-- with Ub
namespace Go.Proofs.Ytmbdglhihakkjaa
open Go.RowKit
set_option linter.unusedVariables false
set_option linter.unusedSimpArgs false

/-- A call's label, in memory laid since X. -/
def LV (X w : World) (G : Int → List (Nat × Int) → Prop) (y : Value) : Prop := ∃ D a n c ps, y = .agg #[.int .i64 D, .slice a n c] ∧ G D ps ∧ w.ownsRow X.heap.size 61 2 (.slice a n c) ps.length (F ps)
/-- A new variable, not yet stored into. -/
def AV (X w : World) (p : Value) : Prop := ∃ A, p = .pointer (some ⟨A, 0, none⟩) ∧ X.heap.size ≤ A ∧ ∃ x u, w.heap[A]? = some (Obj.cells #[x, u] 29)
/-- A new variable that holds a call's label. -/
def SV (w : World) (p y : Value) : Prop := ∃ A D v, p = .pointer (some ⟨A, 0, none⟩) ∧ y = .agg #[.int .i64 D, v] ∧ w.heap[A]? = some (Obj.cells #[.int .i64 D, v] 29)
theorem LV.below {X w w' : World} {G : Int → List (Nat × Int) → Prop} {y : Value} (h : LV X w G y) (hb : Below w.heap.size w w') : LV X w' G y := by
  obtain ⟨D, a, n, c, ps, h1, h2, h3⟩ := h
  exact ⟨D, a, n, c, ps, h1, h2, owns_below h3 hb⟩
theorem AV.below {X w w' : World} {p : Value} (h : AV X w p) (hb : Below w.heap.size w w') : AV X w' p := by
  obtain ⟨A, h1, h2, x, u, h3⟩ := h
  exact ⟨A, h1, h2, x, u, by rw [hb.block _ (Array.getElem?_eq_some_iff.1 h3).1]; exact h3⟩
theorem SV.below {w w' : World} {p y : Value} (h : SV w p y) (hb : Below w.heap.size w w') : SV w' p y := by
  obtain ⟨A, D, v, h1, h2, h3⟩ := h
  exact ⟨A, D, v, h1, h2, by rw [hb.block _ (Array.getElem?_eq_some_iff.1 h3).1]; exact h3⟩
theorem AV.new (X w : World) (x u : Value) (h : X.heap.size ≤ w.heap.size) : AV X (w.alloc (Obj.cells #[x, u] 29)) (.pointer (some ⟨w.heap.size, 0, none⟩)) := ⟨_, rfl, h, x, u, heap_alloc_new w _⟩
theorem below_alloc1 (w : World) (o : Obj) : Below w.heap.size w (w.alloc o) := (Below.refl _ _).alloc (Nat.le_refl _) _
theorem gone {o : Option Bool} (h : o = some false) {Q : Prop} : o = some true → Q := fun e => by rw [h] at e; cases e
theorem set_same {L : Array Bool} {i : Nat} (h : L[i]? = some false) : (L.setIfInBounds i true)[i]? = some true := by
  rw [Array.getElem?_setIfInBounds]; simp [(Array.getElem?_eq_some_iff.1 h).1]
theorem set_other {L : Array Bool} {i j : Nat} (h : i ≠ j) : (L.setIfInBounds i true)[j]? = L[j]? := by
  rw [Array.getElem?_setIfInBounds]; simp [h]
theorem set_keep {L : Array Bool} {i j : Nat} (h : L[j]? = some true) : (L.setIfInBounds i true)[j]? = some true := by
  rw [Array.getElem?_setIfInBounds]
  split
  · rename_i e; subst e; simp [(Array.getElem?_eq_some_iff.1 h).1]
  · exact h
theorem not_done {o : Option Bool} (h : o = some false) (h' : o = some true) {Q : Prop} : Q := by rw [h] at h'; cases h'
theorem ready_nil {ops : Array Oper} {md : Region.Mode} {L : Array Bool} {i : Nat} {o : Oper} (hr : Region.ready md ops L = []) (h1 : L[i]? = some false) (h2 : ops[i]? = some o) (h3 : (o.after.all fun e => !Region.binds md e || L.getD e.on false) = true) : False := by
  have := ready_of h1 h2 h3
  rw [hr] at this; cases this
theorem dep {L : Array Bool} {j : Nat} (h : L.getD j false = true) : L[j]? = some true := by
  rw [Array.getD_eq_getD_getElem?] at h
  cases hL : L[j]? with
  | none => rw [hL] at h; simp at h
  | some b => rw [hL] at h; simp at h; rw [h]
theorem undep {L : Array Bool} {j : Nat} (h : L[j]? = some true) : L.getD j false = true := by
  rw [Array.getD_eq_getD_getElem?, h]; rfl
end Go.Proofs.Ytmbdglhihakkjaa
-- with Uc
namespace Go.Proofs.Ytmbdglhihakkjaa
open Go.RowKit
set_option linter.unusedVariables false
set_option linter.unusedSimpArgs false

/-- A call's label, its slice written out, in memory of the call's own. -/
def LG (W : World) (M : Int) (Z : List (Nat × Int)) (e : Ending) (w' : World) : Prop := ∃ a n c, e = .returned (.agg #[.int .i64 M, .slice a n c]) ∧ w'.ownsRow W.heap.size 61 2 (.slice a n c) Z.length (F Z) ∧ Below W.heap.size W w'
theorem slice_form {w : World} {base e k : Nat} {v : Value} {xs : List Value} (h : w.ownsRow base e 2 v k xs) : ∃ a n c, v = .slice a n c := by
  rcases h.2 with ⟨h, _⟩ | ⟨g', cap', cur, h, hg, _⟩
  · exact ⟨_, _, _, h⟩
  · exact ⟨_, _, _, h⟩
theorem lg_of_gives {W w' : World} {M : Int} {Z : List (Nat × Int)} {e : Ending} (h : Gives W M Z e w') : LG W M Z e w' := by
  obtain ⟨v, h1, h2, h3⟩ := h
  obtain ⟨a, n, c, rfl⟩ := slice_form h2
  exact ⟨a, n, c, h1, h2, h3⟩
theorem lg5 {W : World} {M : Int} {Z : List (Nat × Int)} {f : Nat} {args : Array Value} (h : Calls Try.prog f args W (LG W M Z)) :
    Calls Try.prog f args W fun e w' => ∃ D a n c ps, e = .returned (.agg #[.int .i64 D, .slice a n c]) ∧ (D = M ∧ ps = Z) ∧ w'.ownsRow W.heap.size 61 2 (.slice a n c) ps.length (F ps) ∧ Below W.heap.size W w' :=
  h.mono fun e w' ⟨a, n, c, h1, h2, h3⟩ => ⟨M, a, n, c, Z, h1, ⟨rfl, rfl⟩, h2, h3⟩
theorem pos_of {D : Int} {ps : List (Nat × Int)} (h : Lab.Ok D ps) : ∀ c ∈ ps.map (·.1), 1 ≤ c := fun c hc => by
  obtain ⟨p, hp, rfl⟩ := List.mem_map.1 hc; exact (h.2.1 p hp).1
theorem pos_both {D E : Int} {ps qs : List (Nat × Int)} (h1 : Lab.Ok D ps) (h2 : Lab.Ok E qs) : ∀ c ∈ (ps ++ qs).map (·.1), 1 ≤ c := fun c hc => by
  rw [List.map_append, List.mem_append] at hc
  rcases hc with hc | hc
  · exact pos_of h1 c hc
  · exact pos_of h2 c hc
theorem turn_back {x : Int} (h0 : 0 ≤ x) (h4 : x ≤ 4) : Lab.turn 5 0 (Lab.turn 0 5 x) = x := by
  unfold Lab.turn
  by_cases h : x = 0
  · subst h; rfl
  · rw [if_neg h, if_neg (by omega)]
theorem fine_at {D : Int} {ps : List (Nat × Int)} (h : Lab.Fine D ps) (c : Nat) : 0 ≤ Lab.at' D ps c ∧ Lab.at' D ps c ≤ 4 := by
  by_cases hc : Lab.at' D ps c = D
  · rw [hc]; have := h.2.1; have := h.2.2.1; omega
  · obtain ⟨p, hp, rfl⟩ := Lab.at_ne hc
    rw [Lab.at_mem h.1.1 hp]
    have := h.2.2.2.1 p hp; omega
/-- Raised and lowered a label is itself. -/
theorem lower_raise {D M : Int} {ps Z : List (Nat × Int)} (o : Lab.Ok D ps) (h : Lab.Fine D ps) (hM : Lab.turn 0 5 D = M) (hZ : Lab.tn 0 5 D ps = Z) : Lab.turn 5 0 M = D ∧ Lab.tn 5 0 M Z = ps := by
  subst hM hZ
  have hD : Lab.turn 5 0 (Lab.turn 0 5 D) = D := turn_back (by have := h.2.1; omega) (by have := h.2.2.1; omega)
  refine ⟨hD, Lab.ok_ext (D := D) (by have := Lab.tn_ok (a := 5) (b := 0) (Lab.tn_ok (a := 0) (b := 5) o); rwa [hD] at this) o fun c => ?_⟩
  have := Lab.tn_at (a := 5) (b := 0) (Lab.tn_ok (a := 0) (b := 5) o) c
  rw [hD, Lab.tn_at o] at this
  rw [this]
  exact turn_back (fine_at h c).1 (fine_at h c).2
section
variable {D E : Int} {v1 v2 : Value} {ps qs : List (Nat × Int)} {W : World}
theorem join_c (o1 : Lab.Ok D ps) (o2 : Lab.Ok E qs) (r1 : RC W.heap.size W v1 ps) (r2 : RC W.heap.size W v2 qs) (hn : ps.length + qs.length ≤ 1000000) : Calls Try.prog 46 #[.agg #[.int .i64 D, v1], .agg #[.int .i64 E, v2]] W (LG W (max D E) (Lab.jn D ps E qs)) :=
  (join_any D E v1 v2 ps qs W (by omega) r1 r2).mono fun e w' h => lg_of_gives h
theorem raise_c (r1 : RC W.heap.size W v1 ps) (hn : ps.length ≤ 1000000) : Calls Try.prog 47 #[.agg #[.int .i64 D, v1]] W (LG W (Lab.turn 0 5 D) (Lab.tn 0 5 D ps)) :=
  (praise_any D v1 ps W (by omega) r1).mono fun e w' h => lg_of_gives h
theorem rest_c (r1 : RC W.heap.size W v1 ps) (hn : ps.length ≤ 1000000) : Calls Try.prog 39 #[.agg #[.int .i64 D, v1]] W (LG W (Lab.turn 0 2 D) (Lab.tn 0 2 D ps)) :=
  (prest_any D v1 ps W (by omega) r1).mono fun e w' h => lg_of_gives h
theorem lower_c (r1 : RC W.heap.size W v1 ps) (hn : ps.length ≤ 1000000) : Calls Try.prog 58 #[.agg #[.int .i64 D, v1]] W (LG W (Lab.turn 5 0 D) (Lab.tn 5 0 D ps)) :=
  (plower_any D v1 ps W (by omega) r1).mono fun e w' h => lg_of_gives h
theorem with_c (c : Nat) (l : Int) (o1 : Lab.Ok D ps) (r1 : RC W.heap.size W v1 ps) (hn : ps.length ≤ 1000000) : Calls Try.prog 44 #[.agg #[.int .i64 D, v1], .int .u32 c, .int .i64 l] W (LG W D (Lab.put D ps c l)) :=
  (pwith_any v1 ps D c l W o1.1 (by omega) r1).mono fun e w' h => lg_of_gives h
theorem same_c (r1 : RC W.heap.size W v1 ps) (r2 : RC W.heap.size W v2 qs) : Calls Try.prog 45 #[.agg #[.int .i64 D, v1], .agg #[.int .i64 E, v2]] W fun e w' => e = .returned (.bool (decide (D = E ∧ ps = qs))) ∧ Below W.heap.size W w' :=
  psame_any v1 v2 ps qs D E W (r1.reads (Nat.le_refl _)) (r2.reads (Nat.le_refl _))
theorem same_yes (r1 : RC W.heap.size W v1 ps) (r2 : RC W.heap.size W v2 qs) (h : D = E ∧ ps = qs) : Calls Try.prog 45 #[.agg #[.int .i64 D, v1], .agg #[.int .i64 E, v2]] W fun e w' => e = .returned (.bool true) ∧ Below W.heap.size W w' := by
  have := same_c (D := D) (E := E) r1 r2
  rwa [decide_eq_true h] at this
theorem rmerge_j (o1 : Lab.Ok D ps) (o2 : Lab.Ok E qs) (r1 : RC W.heap.size W v1 ps) (r2 : RC W.heap.size W v2 qs) (hn : ps.length + qs.length ≤ 1000000) : Calls Try.prog 53 #[.agg #[.int .i64 D, v1], .agg #[.int .i64 E, v2], .int .u8 106] W (LG W (max D E) (Lab.jn D ps E qs)) :=
  (merge_any true v1 v2 ps qs D E W (by omega) (r1.reads (Nat.le_refl _)) (r2.reads (Nat.le_refl _)) (pos_both o1 o2)).mono fun e w' ⟨v, cs, h1, h2, h3, h4⟩ => by
    have hv := h3 _ (Lab.merge_jn o1 o2 h2).symm
    rw [Lab.one_max] at h1
    exact lg_of_gives ⟨v, h1, hv, h4⟩
theorem rraise_c (o1 : Lab.Ok D ps) (r1 : RC W.heap.size W v1 ps) (hn : ps.length ≤ 1000000) : Calls Try.prog 49 #[.agg #[.int .i64 D, v1]] W (LG W (Lab.turn 0 5 D) (Lab.tn 0 5 D ps)) :=
  (raise_any v1 ps D W (by omega) (r1.reads (Nat.le_refl _)) (pos_of o1)).mono fun e w' ⟨v, cs, h1, h2, h3, h4⟩ => lg_of_gives ⟨v, h1, h3 _ (Lab.turn_tn o1 h2).symm, h4⟩
theorem rrest_c (o1 : Lab.Ok D ps) (r1 : RC W.heap.size W v1 ps) (hn : ps.length ≤ 1000000) : Calls Try.prog 57 #[.agg #[.int .i64 D, v1]] W (LG W (Lab.turn 0 2 D) (Lab.tn 0 2 D ps)) :=
  (rest_any v1 ps D W (by omega) (r1.reads (Nat.le_refl _)) (pos_of o1)).mono fun e w' ⟨v, cs, h1, h2, h3, h4⟩ => lg_of_gives ⟨v, h1, h3 _ (Lab.turn_tn o1 h2).symm, h4⟩
theorem rlower_c (o1 : Lab.Ok D ps) (r1 : RC W.heap.size W v1 ps) (hn : ps.length ≤ 1000000) : Calls Try.prog 59 #[.agg #[.int .i64 D, v1]] W (LG W (Lab.turn 5 0 D) (Lab.tn 5 0 D ps)) :=
  (lower_any v1 ps D W (by omega) (r1.reads (Nat.le_refl _)) (pos_of o1)).mono fun e w' ⟨v, cs, h1, h2, h3, h4⟩ => lg_of_gives ⟨v, h1, h3 _ (Lab.turn_tn o1 h2).symm, h4⟩
theorem rwith_c (c : Nat) (l : Int) (o1 : Lab.Ok D ps) (r1 : RC W.heap.size W v1 ps) (hn : ps.length ≤ 1000000) (hc1 : 1 ≤ c) (hc2 : c < 4294967296) : Calls Try.prog 56 #[.agg #[.int .i64 D, v1], .int .u32 c, .int .i64 l] W (LG W D (Lab.put D ps c l)) :=
  (with_any v1 ps D l c W (by omega) (r1.reads (Nat.le_refl _)) (pos_of o1) hc1).mono fun e w' ⟨v, cs, h1, h2, h3, h4⟩ => lg_of_gives ⟨v, h1, h3 _ (Lab.with_put o1 hc1 hc2 h2).symm, h4⟩
theorem rleq_c (r : Bool) (o1 : Lab.Ok D ps) (o2 : Lab.Ok E qs) (r1 : RC W.heap.size W v1 ps) (r2 : RC W.heap.size W v2 qs) (hn : ps.length + qs.length ≤ 1000000) (hr : r = true ↔ ∀ c, Lab.at' D ps c ≤ Lab.at' E qs c) :
    Calls Try.prog 48 #[.agg #[.int .i64 D, v1], .agg #[.int .i64 E, v2]] W fun e w' => e = .returned (.bool r) ∧ Below W.heap.size W w' :=
  (leq_any v1 v2 ps qs D E W (by omega) (r1.reads (Nat.le_refl _)) (r2.reads (Nat.le_refl _)) (pos_both o1 o2)).mono fun e w' ⟨cs, h2, h1, h4⟩ => by
    have e1 : Lab.leq cs D ps E qs = r := Bool.eq_iff_iff.2 ((Lab.leq_is o1 o2 h2).trans hr.symm)
    rw [e1] at h1
    exact ⟨h1, h4⟩
end
end Go.Proofs.Ytmbdglhihakkjaa
-- with Ud
namespace Go.Proofs.Ytmbdglhihakkjaa
open Go.RowKit
set_option linter.unusedVariables false
set_option linter.unusedSimpArgs false

/-- A variable of the law's own that holds a label. -/
def Lbl (w : World) (A : Nat) (D : Int) (v : Value) (ps : List (Nat × Int)) : Prop := w.heap[A]? = some (Obj.cells #[.int .i64 D, v] 29) ∧ RC w.heap.size w v ps
theorem Lbl.below {w w' : World} {A : Nat} {D : Int} {v : Value} {ps : List (Nat × Int)} (h : Lbl w A D v ps) (hb : Below w.heap.size w w') : Lbl w' A D v ps :=
  ⟨by rw [hb.block _ (Array.getElem?_eq_some_iff.1 h.1).1]; exact h.1, (h.2.below hb).mono hb.size⟩
theorem Lbl.cells {w : World} {A : Nat} {D : Int} {v : Value} {ps : List (Nat × Int)} (h : Lbl w A D v ps) : w.cell? ⟨A, 0, none⟩ = some (.int .i64 D) ∧ w.cell? ⟨A, 1, none⟩ = some v := cells2 h.1
theorem RC.form {n₀ : Nat} {w : World} {v : Value} {ps : List (Nat × Int)} (h : RC n₀ w v ps) : ∃ a n c, v = .slice a n c := by
  rcases h with ⟨rfl, _⟩ | ⟨b, off, cap, rfl, _⟩
  · exact ⟨_, _, _, rfl⟩
  · exact ⟨_, _, _, rfl⟩
/-- What a seed makes: a label that may be, its slice written out. -/
theorem seed_form (S : Int) (v : Value) (w : World) (h : Ints w v) : Calls Try.prog 12 #[.agg #[.int .i64 S, v]] w fun e w' => ∃ D a n c ps, e = .returned (.agg #[.int .i64 D, .slice a n c]) ∧ Lab.Fine D ps ∧ w'.ownsRow w.heap.size 61 2 (.slice a n c) ps.length (F ps) ∧ Below w.heap.size w w' :=
  (seed_any S v w h).mono fun e w' ⟨u, D, ps, h1, h2, h3, h4⟩ => by
    obtain ⟨a, n, c, rfl⟩ : ∃ a n c, u = .slice a n c := by
      rcases h3.2 with ⟨h, _⟩ | ⟨g', cap', cur, h, hg, _⟩
      · exact ⟨_, _, _, h⟩
      · exact ⟨_, _, _, h⟩
    exact ⟨D, a, n, c, ps, h1, h2, h3, h4⟩
theorem Lbl.rc {w : World} {A : Nat} {D : Int} {v : Value} {ps : List (Nat × Int)} (h : Lbl w A D v ps) : RC w.heap.size w v ps := h.2
/-- What a label is made of, its slice written out. -/
def Made (w : World) (M : Int) (Z : List (Nat × Int)) (e : Ending) (w' : World) : Prop := ∃ a n c, e = .returned (.agg #[.int .i64 M, .slice a n c]) ∧ RC w'.heap.size w' (.slice a n c) Z ∧ Below w.heap.size w w'
theorem made_of_gives {w w' : World} {M : Int} {Z : List (Nat × Int)} {e : Ending} (h : Gives w M Z e w') (hn : Z.length ≤ 140737488351232) : Made w M Z e w' := by
  obtain ⟨v, h1, h2, h3⟩ := h
  have hr := rc_of_owns h2 hn
  obtain ⟨a, n, c, rfl⟩ := hr.form
  exact ⟨a, n, c, h1, hr, h3⟩
end Go.Proofs.Ytmbdglhihakkjaa
-- with Ue
namespace Go.Proofs.Ytmbdglhihakkjaa
open Go.RowKit
set_option linter.unusedVariables false
set_option linter.unusedSimpArgs false

theorem pair_ext {D E : Int} {ps qs : List (Nat × Int)} (o1 : Lab.Ok D ps) (o2 : Lab.Ok E qs) (hD : D = E) (h : ∀ c, Lab.at' D ps c = Lab.at' E qs c) : D = E ∧ ps = qs := by
  subst hD; exact ⟨rfl, Lab.ok_ext o1 o2 h⟩
section
variable {D E F : Int} {ps qs rs : List (Nat × Int)} (o1 : Lab.Ok D ps) (o2 : Lab.Ok E qs) (o3 : Lab.Ok F rs)
include o1 o2
include o3
end
end Go.Proofs.Ytmbdglhihakkjaa
-- with Ug
namespace Go.Proofs.Ytmbdglhihakkjaa
open Go.RowKit
set_option linter.unusedVariables false
set_option linter.unusedSimpArgs false

theorem leq_self (D : Int) (ps : List (Nat × Int)) : ∀ c, Lab.at' D ps c ≤ Lab.at' D ps c := fun c => Int.le_refl _
theorem leq_anti {D E : Int} {ps qs : List (Nat × Int)} (o1 : Lab.Ok D ps) (o2 : Lab.Ok E qs) (h1 : ∀ c, Lab.at' D ps c ≤ Lab.at' E qs c) (h2 : ∀ c, Lab.at' E qs c ≤ Lab.at' D ps c) : D = E ∧ ps = qs :=
  pair_ext o1 o2 (by have a := h1 0; have b := h2 0; rw [Lab.at_zero o1, Lab.at_zero o2] at a b; omega) fun c => by have := h1 c; have := h2 c; omega
/-- A list of categories, as it is read. -/
def OR (w : World) (a : Option Addr) (cs : List Nat) : Prop := ∀ k x, cs[k]? = some x → ∃ bc oc, a = some ⟨bc, oc, none⟩ ∧ bc < w.heap.size ∧ w.cell? ⟨bc, oc + k, none⟩ = some (.int .u32 (x : Nat))
theorem OR.below {w w' : World} {a : Option Addr} {cs : List Nat} (h : OR w a cs) (hb : Below w.heap.size w w') : OR w' a cs := fun k x hk => by
  obtain ⟨bc, oc, h1, h2, h3⟩ := h k x hk
  exact ⟨bc, oc, h1, Nat.lt_of_lt_of_le h2 hb.size, by rw [hb.cell (p := ⟨bc, _, none⟩) h2]; exact h3⟩
/-- What Owns gives, as it is read. -/
def OG (W : World) (cs : List Nat) (e : Ending) (w' : World) : Prop := ∃ a c, e = .returned (.slice a cs.length c) ∧ OR w' a cs ∧ Below W.heap.size W w'
theorem og_of {W w' : World} {v : Value} {cs : List Nat} {e : Ending} (h1 : e = .returned v) (h2 : w'.ownsRow (W.heap.size + 1) 42 1 v cs.length (U cs)) (h3 : Below W.heap.size W w') (hn : cs.length ≤ 1000000) : OG W cs e w' := by
  rcases readsV_of_owns h2 (by omega) with ⟨rfl, hc⟩ | ⟨bc, oc, cc, rfl, hbc, _, hcc⟩
  · have : cs = [] := by simpa [U] using hc
    subst this
    exact ⟨none, 0, h1, fun k x hk => by simp at hk, h3⟩
  · exact ⟨some ⟨bc, oc, none⟩, cc, by simpa [U] using h1, fun k x hk => ⟨bc, oc, rfl, hbc, hcc k _ (by unfold U; rw [List.getElem?_map, hk]; rfl)⟩, h3⟩
theorem Lab.owns_le (ps : List (Nat × Int)) : (Lab.owns ps).length ≤ ps.length := by have := Lab.owns_len ps ps.length; rwa [List.take_length] at this
theorem owns_c {D : Int} {v1 : Value} {ps : List (Nat × Int)} {W : World} (r1 : RC W.heap.size W v1 ps) (hn : ps.length ≤ 1000000) : Calls Try.prog 40 #[.agg #[.int .i64 D, v1]] W (OG W (Lab.owns ps)) :=
  (powns_any v1 ps D W (r1.reads (Nat.le_refl _)) (by omega)).mono fun e w' ⟨v, h1, h2, h3⟩ => og_of h1 h2 h3 (by have := Lab.owns_le ps; omega)
theorem rowns_c {D : Int} {v1 : Value} {ps : List (Nat × Int)} {W : World} (r1 : RC W.heap.size W v1 ps) (hn : ps.length ≤ 1000000) : Calls Try.prog 50 #[.agg #[.int .i64 D, v1]] W (OG W (Lab.owns ps)) :=
  (owns_any v1 ps D W (r1.reads (Nat.le_refl _)) (by omega)).mono fun e w' ⟨v, h1, h2, h3⟩ => og_of h1 h2 h3 (by have := Lab.owns_le ps; omega)
theorem at_c {D l : Int} {v1 : Value} {ps : List (Nat × Int)} {W : World} {c : Nat} (o1 : Lab.Ok D ps) (r1 : RC W.heap.size W v1 ps) (h : Lab.at' D ps c = l) : Calls Try.prog 41 #[.agg #[.int .i64 D, v1], .int .u32 c] W fun e w' => e = .returned (.int .i64 l) ∧ Below W.heap.size W w' := by
  have := pat_any v1 ps D c W o1.1 (r1.reads (Nat.le_refl _)); rwa [h] at this
theorem rat_c {D l : Int} {v1 : Value} {ps : List (Nat × Int)} {W : World} {c : Nat} (r1 : RC W.heap.size W v1 ps) (h : Lab.at' D ps c = l) : Calls Try.prog 55 #[.agg #[.int .i64 D, v1], .int .u32 c] W fun e w' => e = .returned (.int .i64 l) ∧ Below W.heap.size W w' := by
  have := at_any v1 ps D c W (r1.reads (Nat.le_refl _)); rwa [h] at this
theorem turn_ge {b x : Int} (h0 : 0 ≤ x) (hb : 0 ≤ b) : x ≤ Lab.turn 0 b x := by unfold Lab.turn; split <;> omega
theorem leq_turn {b D : Int} {ps : List (Nat × Int)} (h : Lab.Fine D ps) (hb : 0 ≤ b) : ∀ c, Lab.at' D ps c ≤ Lab.at' (Lab.turn 0 b D) (Lab.tn 0 b D ps) c := fun c => by
  rw [Lab.tn_at h.1]; exact turn_ge (fine_at h c).1 hb
theorem mem_owns {ps : List (Nat × Int)} {c : Nat} (h : c ∈ Lab.owns ps) : (c, (0 : Int)) ∈ ps := by
  unfold Lab.owns at h
  obtain ⟨p, hp, rfl⟩ := List.mem_map.1 h
  obtain ⟨h1, h2⟩ := List.mem_filter.1 hp
  have : p.2 = 0 := by simpa using h2
  rw [← this]; exact h1
theorem at_owned {b D : Int} {ps : List (Nat × Int)} (o : Lab.Ok D ps) {c : Nat} {k : Nat} (h : (Lab.owns ps)[k]? = some c) : Lab.at' (Lab.turn 0 b D) (Lab.tn 0 b D ps) c = b := by
  rw [Lab.tn_at o, Lab.at_mem o.1 (mem_owns (List.mem_of_getElem? h))]; simp [Lab.turn]
theorem owns_raised {D : Int} {ps : List (Nat × Int)} (o : Lab.Ok D ps) : Lab.owns (Lab.tn 0 5 D ps) = [] := by
  rw [List.eq_nil_iff_forall_not_mem]
  intro c hc
  have h1 := Lab.at_mem (D := Lab.turn 0 5 D) (Lab.tn_ok (a := 0) (b := 5) o).1 (mem_owns hc)
  rw [Lab.tn_at o] at h1
  unfold Lab.turn at h1
  split at h1 <;> simp_all
theorem same_raised {D : Int} {ps : List (Nat × Int)} (h : Lab.Fine D ps) (hn : (Lab.owns ps).length = 0) : D = Lab.turn 0 5 D ∧ ps = Lab.tn 0 5 D ps := by
  have hD : D = Lab.turn 0 5 D := by unfold Lab.turn; rw [if_neg (by have := h.2.1; omega)]
  refine pair_ext h.1 (Lab.tn_ok h.1) hD fun c => ?_
  rw [Lab.tn_at h.1]
  unfold Lab.turn
  split
  · next he =>
    exfalso
    have hD1 := h.2.1
    obtain ⟨p, hp, rfl⟩ := Lab.at_ne (D := D) (ps := ps) (c := c) (by omega)
    rw [Lab.at_mem h.1.1 hp] at he
    have : p.1 ∈ Lab.owns ps := by unfold Lab.owns; exact List.mem_map.2 ⟨p, List.mem_filter.2 ⟨hp, by simp [he]⟩, rfl⟩
    rw [List.eq_nil_of_length_eq_zero hn] at this
    cases this
  · rfl
end Go.Proofs.Ytmbdglhihakkjaa
