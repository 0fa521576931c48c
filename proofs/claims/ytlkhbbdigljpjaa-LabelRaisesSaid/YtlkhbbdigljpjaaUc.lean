import Derived.Test.YtlkhbbdigljpjaaUb
import Derived.Test.YtlkhbbdigljpjaaNe
import Derived.Test.YtlkhbbdigljpjaaSq
namespace Go.Proofs.Ytlkhbbdigljpjaa
open Go.RowKit
set_option linter.unusedVariables false
set_option linter.unusedSimpArgs false

/-- A call's label, its slice written out, in memory of the call's own. -/
def LG (W : World) (M : Int) (Z : List (Nat × Int)) (e : Ending) (w' : World) : Prop := ∃ a n c, e = .returned (.agg #[.int .i64 M, .slice a n c]) ∧ w'.ownsRow W.heap.size 47 2 (.slice a n c) Z.length (F Z) ∧ Below W.heap.size W w'
theorem slice_form {w : World} {base e k : Nat} {v : Value} {xs : List Value} (h : w.ownsRow base e 2 v k xs) : ∃ a n c, v = .slice a n c := by
  rcases h.2 with ⟨h, _⟩ | ⟨g', cap', cur, h, hg, _⟩
  · exact ⟨_, _, _, h⟩
  · exact ⟨_, _, _, h⟩
theorem lg_of_gives {W w' : World} {M : Int} {Z : List (Nat × Int)} {e : Ending} (h : Gives W M Z e w') : LG W M Z e w' := by
  obtain ⟨v, h1, h2, h3⟩ := h
  obtain ⟨a, n, c, rfl⟩ := slice_form h2
  exact ⟨a, n, c, h1, h2, h3⟩
theorem lg5 {W : World} {M : Int} {Z : List (Nat × Int)} {f : Nat} {args : Array Value} (h : Calls Try.prog f args W (LG W M Z)) :
    Calls Try.prog f args W fun e w' => ∃ D a n c ps, e = .returned (.agg #[.int .i64 D, .slice a n c]) ∧ (D = M ∧ ps = Z) ∧ w'.ownsRow W.heap.size 47 2 (.slice a n c) ps.length (F ps) ∧ Below W.heap.size W w' :=
  h.mono fun e w' ⟨a, n, c, h1, h2, h3⟩ => ⟨M, a, n, c, Z, h1, ⟨rfl, rfl⟩, h2, h3⟩
theorem pos_of {D : Int} {ps : List (Nat × Int)} (h : Lab.Ok D ps) : ∀ c ∈ ps.map (·.1), 1 ≤ c := fun c hc => by
  obtain ⟨p, hp, rfl⟩ := List.mem_map.1 hc; exact (h.2.1 p hp).1
theorem pos_both {D E : Int} {ps qs : List (Nat × Int)} (h1 : Lab.Ok D ps) (h2 : Lab.Ok E qs) : ∀ c ∈ (ps ++ qs).map (·.1), 1 ≤ c := fun c hc => by
  rw [List.map_append, List.mem_append] at hc
  rcases hc with hc | hc
  · exact pos_of h1 c hc
  · exact pos_of h2 c hc
theorem turn_back {x : Int} (h0 : 0 ≤ x) (h4 : x ≤ 4) : Lab.turn 5 0 (Lab.turn 0 5 x) = x := by
  unfold Lab.turn
  by_cases h : x = 0
  · subst h; rfl
  · rw [if_neg h, if_neg (by omega)]
theorem fine_at {D : Int} {ps : List (Nat × Int)} (h : Lab.Fine D ps) (c : Nat) : 0 ≤ Lab.at' D ps c ∧ Lab.at' D ps c ≤ 4 := by
  by_cases hc : Lab.at' D ps c = D
  · rw [hc]; have := h.2.1; have := h.2.2.1; omega
  · obtain ⟨p, hp, rfl⟩ := Lab.at_ne hc
    rw [Lab.at_mem h.1.1 hp]
    have := h.2.2.2.1 p hp; omega
/-- Raised and lowered a label is itself. -/
theorem lower_raise {D M : Int} {ps Z : List (Nat × Int)} (o : Lab.Ok D ps) (h : Lab.Fine D ps) (hM : Lab.turn 0 5 D = M) (hZ : Lab.tn 0 5 D ps = Z) : Lab.turn 5 0 M = D ∧ Lab.tn 5 0 M Z = ps := by
  subst hM hZ
  have hD : Lab.turn 5 0 (Lab.turn 0 5 D) = D := turn_back (by have := h.2.1; omega) (by have := h.2.2.1; omega)
  refine ⟨hD, Lab.ok_ext (D := D) (by have := Lab.tn_ok (a := 5) (b := 0) (Lab.tn_ok (a := 0) (b := 5) o); rwa [hD] at this) o fun c => ?_⟩
  have := Lab.tn_at (a := 5) (b := 0) (Lab.tn_ok (a := 0) (b := 5) o) c
  rw [hD, Lab.tn_at o] at this
  rw [this]
  exact turn_back (fine_at h c).1 (fine_at h c).2
section
variable {D E : Int} {v1 v2 : Value} {ps qs : List (Nat × Int)} {W : World}
theorem join_c (o1 : Lab.Ok D ps) (o2 : Lab.Ok E qs) (r1 : RC W.heap.size W v1 ps) (r2 : RC W.heap.size W v2 qs) (hn : ps.length + qs.length ≤ 1000000) : Calls Try.prog 15 #[.agg #[.int .i64 D, v1], .agg #[.int .i64 E, v2]] W (LG W (max D E) (Lab.jn D ps E qs)) :=
  (join_any D E v1 v2 ps qs W (by omega) r1 r2).mono fun e w' h => lg_of_gives h
theorem meet_c (o1 : Lab.Ok D ps) (o2 : Lab.Ok E qs) (r1 : RC W.heap.size W v1 ps) (r2 : RC W.heap.size W v2 qs) (hn : ps.length + qs.length ≤ 1000000) : Calls Try.prog 16 #[.agg #[.int .i64 D, v1], .agg #[.int .i64 E, v2]] W (LG W (min D E) (Lab.mt D ps E qs)) :=
  (meet_any D E v1 v2 ps qs W (by omega) r1 r2).mono fun e w' h => lg_of_gives h
theorem raise_c (r1 : RC W.heap.size W v1 ps) (hn : ps.length ≤ 1000000) : Calls Try.prog 17 #[.agg #[.int .i64 D, v1]] W (LG W (Lab.turn 0 5 D) (Lab.tn 0 5 D ps)) :=
  (praise_any D v1 ps W (by omega) r1).mono fun e w' h => lg_of_gives h
theorem rest_c (r1 : RC W.heap.size W v1 ps) (hn : ps.length ≤ 1000000) : Calls Try.prog 21 #[.agg #[.int .i64 D, v1]] W (LG W (Lab.turn 0 2 D) (Lab.tn 0 2 D ps)) :=
  (prest_any D v1 ps W (by omega) r1).mono fun e w' h => lg_of_gives h
theorem lower_c (r1 : RC W.heap.size W v1 ps) (hn : ps.length ≤ 1000000) : Calls Try.prog 23 #[.agg #[.int .i64 D, v1]] W (LG W (Lab.turn 5 0 D) (Lab.tn 5 0 D ps)) :=
  (plower_any D v1 ps W (by omega) r1).mono fun e w' h => lg_of_gives h
theorem with_c (c : Nat) (l : Int) (o1 : Lab.Ok D ps) (r1 : RC W.heap.size W v1 ps) (hn : ps.length ≤ 1000000) : Calls Try.prog 25 #[.agg #[.int .i64 D, v1], .int .u32 c, .int .i64 l] W (LG W D (Lab.put D ps c l)) :=
  (pwith_any v1 ps D c l W o1.1 (by omega) r1).mono fun e w' h => lg_of_gives h
theorem same_c (r1 : RC W.heap.size W v1 ps) (r2 : RC W.heap.size W v2 qs) : Calls Try.prog 18 #[.agg #[.int .i64 D, v1], .agg #[.int .i64 E, v2]] W fun e w' => e = .returned (.bool (decide (D = E ∧ ps = qs))) ∧ Below W.heap.size W w' :=
  psame_any v1 v2 ps qs D E W (r1.reads (Nat.le_refl _)) (r2.reads (Nat.le_refl _))
theorem same_yes (r1 : RC W.heap.size W v1 ps) (r2 : RC W.heap.size W v2 qs) (h : D = E ∧ ps = qs) : Calls Try.prog 18 #[.agg #[.int .i64 D, v1], .agg #[.int .i64 E, v2]] W fun e w' => e = .returned (.bool true) ∧ Below W.heap.size W w' := by
  have := same_c (D := D) (E := E) r1 r2
  rwa [decide_eq_true h] at this
theorem rmerge_j (o1 : Lab.Ok D ps) (o2 : Lab.Ok E qs) (r1 : RC W.heap.size W v1 ps) (r2 : RC W.heap.size W v2 qs) (hn : ps.length + qs.length ≤ 1000000) : Calls Try.prog 19 #[.agg #[.int .i64 D, v1], .agg #[.int .i64 E, v2], .int .u8 106] W (LG W (max D E) (Lab.jn D ps E qs)) :=
  (merge_any true v1 v2 ps qs D E W (by omega) (r1.reads (Nat.le_refl _)) (r2.reads (Nat.le_refl _)) (pos_both o1 o2)).mono fun e w' ⟨v, cs, h1, h2, h3, h4⟩ => by
    have hv := h3 _ (Lab.merge_jn o1 o2 h2).symm
    rw [Lab.one_max] at h1
    exact lg_of_gives ⟨v, h1, hv, h4⟩
theorem rmerge_m (o1 : Lab.Ok D ps) (o2 : Lab.Ok E qs) (r1 : RC W.heap.size W v1 ps) (r2 : RC W.heap.size W v2 qs) (hn : ps.length + qs.length ≤ 1000000) : Calls Try.prog 19 #[.agg #[.int .i64 D, v1], .agg #[.int .i64 E, v2], .int .u8 109] W (LG W (min D E) (Lab.mt D ps E qs)) :=
  (merge_any false v1 v2 ps qs D E W (by omega) (r1.reads (Nat.le_refl _)) (r2.reads (Nat.le_refl _)) (pos_both o1 o2)).mono fun e w' ⟨v, cs, h1, h2, h3, h4⟩ => by
    have hv := h3 _ (Lab.merge_mt o1 o2 h2).symm
    rw [Lab.one_min] at h1
    exact lg_of_gives ⟨v, h1, hv, h4⟩
theorem rraise_c (o1 : Lab.Ok D ps) (r1 : RC W.heap.size W v1 ps) (hn : ps.length ≤ 1000000) : Calls Try.prog 20 #[.agg #[.int .i64 D, v1]] W (LG W (Lab.turn 0 5 D) (Lab.tn 0 5 D ps)) :=
  (raise_any v1 ps D W (by omega) (r1.reads (Nat.le_refl _)) (pos_of o1)).mono fun e w' ⟨v, cs, h1, h2, h3, h4⟩ => lg_of_gives ⟨v, h1, h3 _ (Lab.turn_tn o1 h2).symm, h4⟩
theorem rrest_c (o1 : Lab.Ok D ps) (r1 : RC W.heap.size W v1 ps) (hn : ps.length ≤ 1000000) : Calls Try.prog 22 #[.agg #[.int .i64 D, v1]] W (LG W (Lab.turn 0 2 D) (Lab.tn 0 2 D ps)) :=
  (rest_any v1 ps D W (by omega) (r1.reads (Nat.le_refl _)) (pos_of o1)).mono fun e w' ⟨v, cs, h1, h2, h3, h4⟩ => lg_of_gives ⟨v, h1, h3 _ (Lab.turn_tn o1 h2).symm, h4⟩
theorem rlower_c (o1 : Lab.Ok D ps) (r1 : RC W.heap.size W v1 ps) (hn : ps.length ≤ 1000000) : Calls Try.prog 24 #[.agg #[.int .i64 D, v1]] W (LG W (Lab.turn 5 0 D) (Lab.tn 5 0 D ps)) :=
  (lower_any v1 ps D W (by omega) (r1.reads (Nat.le_refl _)) (pos_of o1)).mono fun e w' ⟨v, cs, h1, h2, h3, h4⟩ => lg_of_gives ⟨v, h1, h3 _ (Lab.turn_tn o1 h2).symm, h4⟩
theorem rwith_c (c : Nat) (l : Int) (o1 : Lab.Ok D ps) (r1 : RC W.heap.size W v1 ps) (hn : ps.length ≤ 1000000) (hc1 : 1 ≤ c) (hc2 : c < 4294967296) : Calls Try.prog 30 #[.agg #[.int .i64 D, v1], .int .u32 c, .int .i64 l] W (LG W D (Lab.put D ps c l)) :=
  (with_any v1 ps D l c W (by omega) (r1.reads (Nat.le_refl _)) (pos_of o1) hc1).mono fun e w' ⟨v, cs, h1, h2, h3, h4⟩ => lg_of_gives ⟨v, h1, h3 _ (Lab.with_put o1 hc1 hc2 h2).symm, h4⟩
theorem rleq_c (r : Bool) (o1 : Lab.Ok D ps) (o2 : Lab.Ok E qs) (r1 : RC W.heap.size W v1 ps) (r2 : RC W.heap.size W v2 qs) (hn : ps.length + qs.length ≤ 1000000) (hr : r = true ↔ ∀ c, Lab.at' D ps c ≤ Lab.at' E qs c) :
    Calls Try.prog 32 #[.agg #[.int .i64 D, v1], .agg #[.int .i64 E, v2]] W fun e w' => e = .returned (.bool r) ∧ Below W.heap.size W w' :=
  (leq_any v1 v2 ps qs D E W (by omega) (r1.reads (Nat.le_refl _)) (r2.reads (Nat.le_refl _)) (pos_both o1 o2)).mono fun e w' ⟨cs, h2, h1, h4⟩ => by
    have e1 : Lab.leq cs D ps E qs = r := Bool.eq_iff_iff.2 ((Lab.leq_is o1 o2 h2).trans hr.symm)
    rw [e1] at h1
    exact ⟨h1, h4⟩
end
end Go.Proofs.Ytlkhbbdigljpjaa
