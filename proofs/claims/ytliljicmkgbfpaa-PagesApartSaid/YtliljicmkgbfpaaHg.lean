/- Sets of pages, and maps from pages to ways: what is taken away, what is looked up. -/
import Derived.Test.YtliljicmkgbfpaaHf
set_option linter.unusedVariables false
set_option linter.unusedSimpArgs false
namespace Pg
theorem wf_bool (b : Bool) : b = true ∨ b = false := by cases b <;> simp
/-- How many pages lead somewhere. -/
def cntN (mp : Nat → Option (Nat × Bool)) (n : Nat) : Nat := ((List.range n).filter fun p => (mp p).isSome).length
theorem cntN_succ (mp : Nat → Option (Nat × Bool)) (n : Nat) : cntN mp (n + 1) = cntN mp n + if (mp n).isSome then 1 else 0 := by
  unfold cntN
  rw [List.range_succ, List.filter_append, List.length_append]
  cases h : (mp n).isSome <;> simp [h]
theorem cntN_none (n : Nat) : cntN (fun _ => none) n = 0 := by
  induction n with
  | zero => rfl
  | succ n ih => rw [cntN_succ, ih]; rfl
theorem upd_ne {mp : Nat → Option (Nat × Bool)} {p f k : Nat} {m : Bool} (h : k ≠ p) : upd mp p f m k = mp k := by unfold upd; rw [if_neg h]
theorem upd_at {mp : Nat → Option (Nat × Bool)} {p f : Nat} {m : Bool} : upd mp p f m p = some (f, m) := by unfold upd; rw [if_pos rfl]
theorem cntN_upd (mp : Nat → Option (Nat × Bool)) (p f : Nat) (m : Bool) (n : Nat) (hp : p < n) : cntN (upd mp p f m) n = cntN mp n + if (mp p).isSome then 0 else 1 := by
  have e : ∀ k, k ≤ p → cntN (upd mp p f m) k = cntN mp k := fun k hk => by
    induction k with
    | zero => rfl
    | succ k ih => rw [cntN_succ, cntN_succ, ih (by omega), upd_ne (by omega)]
  have e2 : ∀ k, cntN (upd mp p f m) (p + 1 + k) = cntN mp (p + 1 + k) + if (mp p).isSome then 0 else 1 := fun k => by
    induction k with
    | zero => rw [Nat.add_zero, cntN_succ, cntN_succ, e p (Nat.le_refl _), upd_at]; cases (mp p).isSome <;> simp
    | succ k ih => rw [← Nat.add_assoc, cntN_succ, cntN_succ, ih, upd_ne (by omega)]; omega
  have := e2 (n - (p + 1))
  rw [show p + 1 + (n - (p + 1)) = n by omega] at this
  exact this
end Pg
namespace Go.Proofs.Ytliljicmkgbfpaa
open Go.RowKit Go.Maps Pg
theorem SetM.drop {w : World} {G m j : Nat} {S : List Nat} {x : Int} (h : SetM w G m S) (hj : j < 4194304) (hx : x = (j : Int)) (ty : TypeId) :
    ∃ w', (Builtin.delete_ #[29, 3] ty #[.map (some G), .int .i64 x]).run Try.prog w = .ok (.tuple #[]) w' ∧ SetM w' G m (S.erase j) ∧ w.mapTurned w' G := by
  subst hx
  obtain ⟨h0, D, ho, h2, h3⟩ := h
  obtain ⟨w', hrun, ho', ht⟩ := ho.drop keyI Try.underlying29 (key_num (x := j) (by omega) (by omega)) ty
  refine ⟨w', hrun, ⟨h0.erase j, _, ho', fun x => ?_, ?_⟩, ht⟩
  · by_cases e : x = j
    · subst e; rw [has_del_same]; simp [h0.mem_erase_iff]
    · rw [has_del_other (by simp; omega), h2 x]
      by_cases hx : 0 ≤ x
      · have e2 : ¬ x.toNat = j := by omega
        simp [h0.mem_erase_iff, hx, e2]
      · simp [hx]
  · have := size_del (D := D) (k := .int .i64 (j : Int)) (ho.tidy keyI)
    rw [h2 j, h3] at this
    by_cases e : j ∈ S
    · rw [List.length_erase_of_mem e]; simp [e] at this; omega
    · rw [List.erase_of_not_mem e]; simp [e] at this; exact this
/-- Where a page leads, as a map holds it. -/
def wayR (v : Value) : Option (DataW Unit × List MemPlace) := match v with
  | .agg ⟨[.int .i64 f, .bool m]⟩ => some (.agg [.lit (.int .i64 f), .lit (.bool m)], [])
  | _ => none
theorem wayR_inv {v : Value} {z : DataW Unit × List MemPlace} (h : wayR v = some z) : ∃ f m, v = .agg #[.int .i64 f, .bool m] ∧ z = (.agg [.lit (.int .i64 f), .lit (.bool m)], []) := by
  unfold wayR at h
  split at h
  · injection h with h; exact ⟨_, _, rfl, h.symm⟩
  · cases h
theorem zeroW (w : World) : (zeroValue 36).run Try.prog w = .ok (.agg #[.int .i64 0, .bool false]) w := by kernel_rfl
/-- A map from pages to ways. -/
def WayM (w : World) (G n : Nat) (mp : Nat → Option (Nat × Bool)) : Prop := (∀ p, 4096 ≤ p → mp p = none) ∧ ∃ D : DataW Unit, w.ownsMap Try.prog 3 wayR G n D ∧
  (∀ x : Int, Maps.has D (.int .i64 x) = decide (0 ≤ x ∧ (mp x.toNat).isSome)) ∧ (∀ (p f : Nat) (m : Bool), mp p = some (f, m) → ∀ z, D.atKey (.int .i64 (p : Int)) z = .agg [.lit (.int .i64 (f : Int)), .lit (.bool m)]) ∧ Maps.size D = cntN mp 4096
theorem WayM.new (w : World) : WayM (w.alloc (.map #[] 0)) w.heap.size 0 (fun _ => none) :=
  ⟨fun _ _ => rfl, .map [], World.ownsMap_made _ _ _ _, fun x => by simp; rfl, fun p f m h => (by cases h), by rw [cntN_none]; rfl⟩
theorem WayM.same {w w' : World} {G n : Nat} {mp : Nat → Option (Nat × Bool)} (h : WayM w G n mp) (hs : w'.heap[G]? = w.heap[G]?) : WayM w' G n mp := by
  obtain ⟨h0, D, ⟨es, clock, h1, h2⟩, h3⟩ := h
  exact ⟨h0, D, ⟨es, clock, by rw [hs]; exact h1, h2⟩, h3⟩
theorem WayM.len {w : World} {G n : Nat} {mp : Nat → Option (Nat × Bool)} (h : WayM w G n mp) (ty : TypeId) : (Builtin.len_ #[28] ty #[.map (some G)]).run Try.prog w = .ok (.int .i64 (cntN mp 4096 : Nat)) w := by
  obtain ⟨h0, D, ho, _, _, h3⟩ := h
  rw [ho.len Try.underlying28, h3]
/-- 'w, is := m[page]'. -/
theorem WayM.look {w : World} {G n : Nat} {mp : Nat → Option (Nat × Bool)} (h : WayM w G n mp) (p : Nat) (x : Int) (hx : x = (p : Int)) (hp : p < 4096) (f : Int) (hf : ((fr (mp p) : Nat) : Int) = f) :
    (Instr.lookup 28 (.map (some G)) (.int .i64 x) true).run Try.prog w = .ok (.tuple #[.agg #[.int .i64 f, .bool (Pg.ok (mp p))], .bool (mp p).isSome]) w := by
  subst hx hf
  obtain ⟨h0, D, ho, h1, h2, _⟩ := h
  obtain ⟨v, ps, hrun, hv⟩ := ho.look_ok keyI Try.underlying28 (zeroW w) (zd := .agg [.lit (.int .i64 0), .lit (.bool false)]) rfl (key_num (x := p) (by omega) (by omega))
  rw [hrun, h1 p]
  obtain ⟨g, b, rfl, hz⟩ := wayR_inv hv
  injection hz with hz _
  cases hm : mp p with
  | none =>
    have hn : Maps.has D (.int .i64 (p : Int)) = false := by rw [h1 p]; simp [hm]
    rw [atKey_of_not_has hn] at hz
    injection hz with hz
    injection hz with hz1 hz2
    injection hz2 with hz2 _
    injection hz1 with hz1
    injection hz1 with _ hz1
    injection hz2 with hz2
    injection hz2 with hz2
    subst hz1 hz2
    simp [hm, fr, Pg.ok]
  | some y =>
    obtain ⟨f, m⟩ := y
    rw [h2 p f m hm] at hz
    injection hz with hz
    injection hz with hz1 hz2
    injection hz2 with hz2 _
    injection hz1 with hz1
    injection hz1 with _ hz1
    injection hz2 with hz2
    injection hz2 with hz2
    subst hz1 hz2
    simp [hm, fr, Pg.ok]
theorem WayM.store {w : World} {G n p f : Nat} {m : Bool} {mp : Nat → Option (Nat × Bool)} {x y : Int} (h : WayM w G n mp) (hn : n < maxLen) (hp : p < 4096) (hx : x = (p : Int)) (hy : y = (f : Int)) :
    ∃ w', (Instr.mapUpdate 28 (.map (some G)) (.int .i64 x) (.agg #[.int .i64 y, .bool m])).run Try.prog w = .ok () w' ∧ WayM w' G (n + 1) (upd mp p f m) ∧ w.grownBy w' (some G) := by
  subst hx hy
  obtain ⟨h0, D, ho, h1, h2, h3⟩ := h
  obtain ⟨w', hrun, ho', hg⟩ := ho.update keyI Try.underlying28 hn (key_num (x := p) (by omega) (by omega)) (show wayR (.agg #[.int .i64 (f : Int), .bool m]) = some (.agg [.lit (.int .i64 (f : Int)), .lit (.bool m)], []) from rfl)
  have hk : WideAt.IsKeyLit (.int .i64 (p : Int)) := keyI.key (key_num (x := p) (by omega) (by omega))
  refine ⟨w', hrun, ⟨fun q hq => by unfold upd; rw [if_neg (by omega)]; exact h0 q hq, _, ho', fun x => ?_, fun q g b hq z => ?_, ?_⟩, hg⟩
  · by_cases e : x = p
    · subst e; rw [has_put_same ho.isMap hk]; simp [upd]
    · rw [has_put_other (by simp; omega), h1 x]
      by_cases hx : 0 ≤ x
      · have e2 : ¬ x.toNat = p := by omega
        simp [upd, hx, e2]
      · simp [hx]
  · unfold upd at hq
    by_cases e : q = p
    · subst e
      rw [if_pos rfl] at hq
      injection hq with hq
      injection hq with hq1 hq2
      subst hq1 hq2
      exact atKey_put_same ho.isMap hk _ _
    · rw [if_neg e] at hq
      rw [atKey_put_other (by simp; omega)]
      exact h2 q g b hq z
  · rw [size_put (ho.tidy keyI), h1 p, h3, cntN_upd _ _ _ _ _ hp]
    cases hm : (mp p).isSome <;> simp [hm]
end Go.Proofs.Ytliljicmkgbfpaa
