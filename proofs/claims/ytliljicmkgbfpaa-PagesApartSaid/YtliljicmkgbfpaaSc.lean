/- Maps from pages to frames: a law's own map[int]int. -/
import Derived.Test.YtliljicmkgbfpaaHg
set_option linter.unusedVariables false
set_option linter.unusedSimpArgs false
namespace Pg
theorem cntN_zero (mp : Nat → Option (Nat × Bool)) : ∀ n, cntN mp n = 0 ↔ ∀ p, p < n → mp p = none
  | 0 => by simp [cntN]
  | n + 1 => by
    rw [cntN_succ]
    constructor
    · intro h p hp
      by_cases e : p = n
      · subst e
        cases hm : mp p with
        | none => rfl
        | some x => rw [hm] at h; simp at h
      · exact (cntN_zero mp n).1 (by omega) p (by omega)
    · intro h
      rw [(cntN_zero mp n).2 (fun p hp => h p (by omega)), h n (by omega)]
      rfl
end Pg
namespace Go.Proofs.Ytliljicmkgbfpaa
open Go.RowKit Go.Maps Pg
theorem zeroI (w : World) : (zeroValue 3).run Try.prog w = .ok (.int .i64 0) w := by kernel_rfl
/-- A map from pages to frames. -/
def IntM (w : World) (G n : Nat) (mp : Nat → Option (Nat × Bool)) : Prop := (∀ p, 4096 ≤ p → mp p = none) ∧ (∀ p x, mp p = some x → x.1 ≤ 1000000) ∧ ∃ D : DataW Unit, w.ownsMap Try.prog 3 (plainElem Try.prog 3) G n D ∧
  (∀ x : Int, Maps.has D (.int .i64 x) = decide (0 ≤ x ∧ (mp x.toNat).isSome)) ∧ (∀ (p f : Nat) (m : Bool), mp p = some (f, m) → ∀ z, D.atKey (.int .i64 (p : Int)) z = .lit (.int .i64 (f : Int))) ∧ Maps.size D = cntN mp 4096
theorem IntM.new (w : World) : IntM (w.alloc (.map #[] 0)) w.heap.size 0 (fun _ => none) :=
  ⟨fun _ _ => rfl, (fun p x h => by cases h), .map [], World.ownsMap_made _ _ _ _, fun x => by simp; rfl, fun p f m h => (by cases h), by rw [cntN_none]; rfl⟩
theorem IntM.same {w w' : World} {G n : Nat} {mp : Nat → Option (Nat × Bool)} (h : IntM w G n mp) (hs : w'.heap[G]? = w.heap[G]?) : IntM w' G n mp := by
  obtain ⟨h0, hf, D, ⟨es, clock, h1, h2⟩, h3⟩ := h
  exact ⟨h0, hf, D, ⟨es, clock, by rw [hs]; exact h1, h2⟩, h3⟩
theorem IntM.mono {w : World} {G n n' : Nat} {mp : Nat → Option (Nat × Bool)} (h : IntM w G n mp) (hn : n ≤ n') : IntM w G n' mp := by
  obtain ⟨h0, hf, D, ho, h3⟩ := h
  exact ⟨h0, hf, D, ho.mono hn, h3⟩
theorem IntM.len {w : World} {G n : Nat} {mp : Nat → Option (Nat × Bool)} (h : IntM w G n mp) (ty : TypeId) : (Builtin.len_ #[50] ty #[.map (some G)]).run Try.prog w = .ok (.int .i64 (cntN mp 4096 : Nat)) w := by
  obtain ⟨h0, _, D, ho, _, _, h3⟩ := h
  rw [ho.len Try.underlying50, h3]
theorem plain_int_inv {v : Value} {z : DataW Unit × List MemPlace} (h : plainElem Try.prog 3 v = some z) : ∃ x, v = .int .i64 x ∧ z = (.lit (.int .i64 x), []) := by
  unfold plainElem at h
  rw [Try.underlying3] at h
  cases v <;> simp at h
  obtain ⟨⟨h1, h2⟩, rfl⟩ := h
  subst h1
  exact ⟨_, rfl, rfl⟩
/-- 'h, is := m[page]'. -/
theorem IntM.look {w : World} {G n : Nat} {mp : Nat → Option (Nat × Bool)} (h : IntM w G n mp) (p : Nat) (x : Int) (hx : x = (p : Int)) (hp : p < 4096) (f : Int) (hf : ((fr (mp p) : Nat) : Int) = f) :
    (Instr.lookup 50 (.map (some G)) (.int .i64 x) true).run Try.prog w = .ok (.tuple #[.int .i64 f, .bool (mp p).isSome]) w := by
  subst hx hf
  obtain ⟨h0, _, D, ho, h1, h2, _⟩ := h
  obtain ⟨v, ps, hrun, hv⟩ := ho.look_ok keyI Try.underlying50 (zeroI w) (zd := .lit (.int .i64 0)) (by rw [plainElem_int Try.underlying3 (wf_small (by omega) (by omega))]) (key_num (x := p) (by omega) (by omega))
  rw [hrun, h1 p]
  obtain ⟨g, rfl, hz⟩ := plain_int_inv hv
  injection hz with hz _
  cases hm : mp p with
  | none =>
    have hn : Maps.has D (.int .i64 (p : Int)) = false := by rw [h1 p]; simp [hm]
    rw [atKey_of_not_has hn] at hz
    injection hz with hz
    injection hz with _ hz
    subst hz
    simp [hm, fr]
  | some y =>
    obtain ⟨f, m⟩ := y
    rw [h2 p f m hm] at hz
    injection hz with hz
    injection hz with _ hz
    subst hz
    simp [hm, fr]
theorem IntM.store {w : World} {G n p f : Nat} {m : Bool} {mp : Nat → Option (Nat × Bool)} {x y : Int} (h : IntM w G n mp) (hn : n < maxLen) (hp : p < 4096) (hf : f ≤ 1000000) (hx : x = (p : Int)) (hy : y = (f : Int)) :
    ∃ w', (Instr.mapUpdate 50 (.map (some G)) (.int .i64 x) (.int .i64 y)).run Try.prog w = .ok () w' ∧ IntM w' G (n + 1) (upd mp p f m) ∧ w.grownBy w' (some G) := by
  subst hx hy
  obtain ⟨h0, hff, D, ho, h1, h2, h3⟩ := h
  obtain ⟨w', hrun, ho', hg⟩ := ho.update keyI Try.underlying50 hn (key_num (x := p) (by omega) (by omega)) (plainElem_int Try.underlying3 (wf_small (x := (f : Int)) (by omega) (by omega)))
  have hk : WideAt.IsKeyLit (.int .i64 (p : Int)) := keyI.key (key_num (x := p) (by omega) (by omega))
  refine ⟨w', hrun, ⟨fun q hq => by unfold upd; rw [if_neg (by omega)]; exact h0 q hq, fun q z hq => ?_, _, ho', fun x => ?_, fun q g b hq z => ?_, ?_⟩, hg⟩
  · unfold upd at hq
    split at hq
    · injection hq with hq; rw [← hq]; exact hf
    · exact hff q z hq
  · by_cases e : x = p
    · subst e; rw [has_put_same ho.isMap hk]; simp [upd]
    · rw [has_put_other (by simp; omega), h1 x]
      by_cases hx : 0 ≤ x
      · have e2 : ¬ x.toNat = p := by omega
        simp [upd, hx, e2]
      · simp [hx]
  · unfold upd at hq
    by_cases e : q = p
    · subst e
      rw [if_pos rfl] at hq
      injection hq with hq
      injection hq with hq1 hq2
      subst hq1 hq2
      exact atKey_put_same ho.isMap hk _ _
    · rw [if_neg e] at hq
      rw [atKey_put_other (by simp; omega)]
      exact h2 q g b hq z
  · rw [size_put (ho.tidy keyI), h1 p, h3, cntN_upd _ _ _ _ _ hp]
    cases hm : (mp p).isSome <;> simp [hm]
/-- A range over such a map: what has not come yet is there. -/
def IntR (w : World) (b r n : Nat) (mp : Nat → Option (Nat × Bool)) (D : DataW Unit) (left : Lit → Bool) (cnt : Nat) : Prop := w.ranges Try.prog 3 (plainElem Try.prog 3) b r n D left cnt ∧ (∀ x : Int, left (.int .i64 x) = true → ∃ p : Nat, x = (p : Int) ∧ p < 4096 ∧ (mp p).isSome = true) ∧ (∀ (p f : Nat) (m : Bool), mp p = some (f, m) → ∀ z, D.atKey (.int .i64 (p : Int)) z = .lit (.int .i64 (f : Int)))
theorem IntM.ranges {w : World} {b n : Nat} {mp : Nat → Option (Nat × Bool)} (h : IntM w b n mp) : ∃ D : DataW Unit, w.ownsMap Try.prog 3 (plainElem Try.prog 3) b n D ∧ (∀ x : Int, Maps.has D (.int .i64 x) = true → ∃ p : Nat, x = (p : Int) ∧ p < 4096 ∧ (mp p).isSome = true) ∧ (∀ (p f : Nat) (m : Bool), mp p = some (f, m) → ∀ z, D.atKey (.int .i64 (p : Int)) z = .lit (.int .i64 (f : Int))) := by
  obtain ⟨h0, hff, D, ho, h1, h2, h3⟩ := h
  refine ⟨D, ho, fun x hx => ?_, h2⟩
  rw [h1] at hx
  have := of_decide_eq_true hx
  refine ⟨x.toNat, by omega, ?_, this.2⟩
  by_cases e : x.toNat < 4096
  · exact e
  · have e2 := this.2
    rw [h0 _ (by omega)] at e2
    cases e2
theorem IntR.kept {w w' : World} {b r n cnt : Nat} {mp : Nat → Option (Nat × Bool)} {D : DataW Unit} {left : Lit → Bool} (h : IntR w b r n mp D left cnt) (hb : Below w.heap.size w w') : IntR w' b r n mp D left cnt :=
  ⟨h.1.kept (grown_below (row := none) hb) (by simp) (by simp), h.2⟩
end Go.Proofs.Ytliljicmkgbfpaa
