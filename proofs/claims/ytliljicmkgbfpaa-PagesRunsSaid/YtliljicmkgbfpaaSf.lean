/- Maps that are cleared, or gone over and taken from. -/
import Derived.Test.YtliljicmkgbfpaaSc
set_option linter.unusedVariables false
set_option linter.unusedSimpArgs false
namespace Pg
/-- One page leads nowhere any more. -/
def del (mp : Nat → Option (Nat × Bool)) (p : Nat) : Nat → Option (Nat × Bool) := fun x => if x = p then none else mp x
theorem del_at (mp : Nat → Option (Nat × Bool)) (p : Nat) : del mp p p = none := by unfold del; rw [if_pos rfl]
theorem del_ne (mp : Nat → Option (Nat × Bool)) {p k : Nat} (h : k ≠ p) : del mp p k = mp k := by unfold del; rw [if_neg h]
theorem cntN_del (mp : Nat → Option (Nat × Bool)) (p : Nat) (hs : (mp p).isSome = true) : ∀ n, p < n → cntN (del mp p) n + 1 = cntN mp n := by
  have e : ∀ k, k ≤ p → cntN (del mp p) k = cntN mp k := fun k hk => by
    induction k with
    | zero => rfl
    | succ k ih => rw [cntN_succ, cntN_succ, ih (by omega), del_ne _ (by omega)]
  have e2 : ∀ k, cntN (del mp p) (p + 1 + k) + 1 = cntN mp (p + 1 + k) := fun k => by
    induction k with
    | zero => rw [Nat.add_zero, cntN_succ, cntN_succ, e p (Nat.le_refl _), hs, del_at]; simp
    | succ k ih => rw [← Nat.add_assoc, cntN_succ, cntN_succ, ← ih, del_ne _ (by omega)]; omega
  intro n hn
  have := e2 (n - (p + 1))
  rwa [show p + 1 + (n - (p + 1)) = n by omega] at this
theorem cntN_wipe (mp : Nat → Option (Nat × Bool)) (f : Nat) : ∀ n, cntN (wipe mp f) n + ((List.range n).filter (leads mp f)).length = cntN mp n
  | 0 => rfl
  | n + 1 => by
    rw [cntN_succ, cntN_succ, List.range_succ, List.filter_append, List.length_append, ← cntN_wipe mp f n]
    have : (if (wipe mp f n).isSome = true then 1 else 0) + ([n].filter (leads mp f)).length = if (mp n).isSome = true then 1 else 0 := by
      unfold wipe leads
      cases hm : mp n with
      | none => simp [hm]
      | some x =>
        by_cases e : x.1 = f
        · simp [hm, e]
        · simp [hm, e]
    omega
theorem cntN_same {mp mp' : Nat → Option (Nat × Bool)} {n : Nat} (h : ∀ p, p < n → (mp p).isSome = (mp' p).isSome) : cntN mp n = cntN mp' n := by
  unfold cntN
  congr 1
  exact List.filter_congr (fun p hp => h p (List.mem_range.1 hp))
theorem sg_cnt (mp : Nat → Option (Nat × Bool)) : (sg mp 0 0).length = cntN mp 4096 := by
  unfold sg cntN
  rw [Nat.zero_mul, List.range_eq_range']
end Pg
namespace Go.Proofs.Ytliljicmkgbfpaa
open Go.RowKit Go.Maps Pg
/-- 'clear(m)'. -/
theorem clear_own {P : Program} {t k e : TypeId} {R : Value → Option (DataW Unit × List MemPlace)} {w : World} {b n : Nat} {D : DataW Unit} (h : w.ownsMap P k R b n D) (ht : P.underlying t = some (.map k e)) (ty : TypeId) :
    ∃ w', (Builtin.clear_ #[t] ty #[.map (some b)]).run P w = .ok (.tuple #[]) w' ∧ w'.ownsMap P k R b n (.map []) ∧ w.mapTurned w' b := by
  obtain ⟨es, clock, hb, F, hs, rfl⟩ := h
  refine ⟨_, by simp [Builtin.clear_, run_underlying ht, MapKept.run_getObj_map hb, MapKept.run_setObj_map _ hb, Result.andThen]; rfl, ⟨#[], clock, MapKept.heap_set hb |>.1, ⟨by simp, MapKept.stamped_empty _, by simp⟩, Nat.zero_le _, rfl⟩, ⟨es, clock, _, _, hb, rfl⟩⟩
theorem turn_map {w w' : World} {b : Nat} (h : w.mapTurned w' b) : Turn [b] w w' := by
  obtain ⟨es, clock, es', clock', hb, rfl⟩ := h
  exact ⟨rfl, rfl, rfl, by simp [ChangeMaps.setBlock], fun i _ hi => ChangeMaps.heap_setBlock_other hb _ (fun e => hi (by rw [e]; simp))⟩
theorem SetM.clear {w : World} {G m : Nat} {S : List Nat} (h : SetM w G m S) (ty : TypeId) : ∃ w', (Builtin.clear_ #[29] ty #[.map (some G)]).run Try.prog w = .ok (.tuple #[]) w' ∧ SetM w' G m [] ∧ w.mapTurned w' G := by
  obtain ⟨h0, D, ho, _⟩ := h
  obtain ⟨w', hrun, ho', ht⟩ := clear_own ho Try.underlying29 ty
  exact ⟨w', hrun, ⟨by simp, _, ho', fun x => by simp; rfl, rfl⟩, ht⟩
theorem WayM.clear {w : World} {G m : Nat} {mp : Nat → Option (Nat × Bool)} (h : WayM w G m mp) (ty : TypeId) : ∃ w', (Builtin.clear_ #[28] ty #[.map (some G)]).run Try.prog w = .ok (.tuple #[]) w' ∧ WayM w' G m (fun _ => none) ∧ w.mapTurned w' G := by
  obtain ⟨h0, D, ho, _⟩ := h
  obtain ⟨w', hrun, ho', ht⟩ := clear_own ho Try.underlying28 ty
  exact ⟨w', hrun, ⟨fun _ _ => rfl, _, ho', fun x => by simp; rfl, fun p f m h => (by cases h), by rw [cntN_none]; rfl⟩, ht⟩
theorem WayM.mono {w : World} {G n n' : Nat} {mp : Nat → Option (Nat × Bool)} (h : WayM w G n mp) (hn : n ≤ n') : WayM w G n' mp := by
  obtain ⟨h0, D, ho, h3⟩ := h
  exact ⟨h0, D, ho.mono hn, h3⟩
theorem SetM.mono {w : World} {G n n' : Nat} {S : List Nat} (h : SetM w G n S) (hn : n ≤ n') : SetM w G n' S := by
  obtain ⟨h0, D, ho, h3⟩ := h
  exact ⟨h0, D, ho.mono hn, h3⟩
/-- 'm[page]'. -/
theorem WayM.at_ {w : World} {G n : Nat} {mp : Nat → Option (Nat × Bool)} (h : WayM w G n mp) (p : Nat) (x : Int) (hx : x = (p : Int)) (hp : p < 4096) (f : Int) (hf : ((fr (mp p) : Nat) : Int) = f) :
    (Instr.lookup 28 (.map (some G)) (.int .i64 x) false).run Try.prog w = .ok (.agg #[.int .i64 f, .bool (Pg.ok (mp p))]) w := by
  subst hx hf
  obtain ⟨h0, D, ho, h1, h2, _⟩ := h
  obtain ⟨v, ps, hrun, hv⟩ := ho.lookup keyI Try.underlying28 (zeroW w) (zd := .agg [.lit (.int .i64 0), .lit (.bool false)]) rfl (key_num (x := p) (by omega) (by omega))
  rw [hrun]
  obtain ⟨g, b, rfl, hz⟩ := wayR_inv hv
  injection hz with hz _
  cases hm : mp p with
  | none =>
    have hn : Maps.has D (.int .i64 (p : Int)) = false := by rw [h1 p]; simp [hm]
    rw [atKey_of_not_has hn] at hz
    injection hz with hz
    injection hz with hz1 hz2
    injection hz2 with hz2 _
    injection hz1 with hz1
    injection hz1 with _ hz1
    injection hz2 with hz2
    injection hz2 with hz2
    subst hz1 hz2
    simp [fr, Pg.ok]
  | some y =>
    obtain ⟨f, m⟩ := y
    rw [h2 p f m hm] at hz
    injection hz with hz
    injection hz with hz1 hz2
    injection hz2 with hz2 _
    injection hz1 with hz1
    injection hz1 with _ hz1
    injection hz2 with hz2
    injection hz2 with hz2
    subst hz1 hz2
    simp [fr, Pg.ok]
theorem way_field (f : Int) (b : Bool) (X : World) : (Instr.field 36 (.agg #[.int .i64 f, .bool b]) 0).run Try.prog X = .ok (.int .i64 f) X := by kernel_rfl
/-- A range over such a map. -/
structure WayR (w : World) (b r n : Nat) (mp : Nat → Option (Nat × Bool)) (D : DataW Unit) (left : Lit → Bool) (cnt : Nat) : Prop where
  rg : w.ranges Try.prog 3 wayR b r n D left cnt
  out : ∀ p, 4096 ≤ p → mp p = none
  has : ∀ x : Int, Maps.has D (.int .i64 x) = decide (0 ≤ x ∧ (mp x.toNat).isSome)
  at_ : ∀ (p f : Nat) (m : Bool), mp p = some (f, m) → ∀ z, D.atKey (.int .i64 (p : Int)) z = .agg [.lit (.int .i64 (f : Int)), .lit (.bool m)]
  size : Maps.size D = cntN mp 4096
  left : ∀ x : Int, left (.int .i64 x) = true → ∃ p : Nat, x = (p : Int) ∧ p < 4096 ∧ (mp p).isSome = true
theorem WayM.ranges {w : World} {b n : Nat} {mp : Nat → Option (Nat × Bool)} (h : WayM w b n mp) : ∃ D : DataW Unit, w.ownsMap Try.prog 3 wayR b n D ∧ ∀ w' r, w'.ranges Try.prog 3 wayR b r n D (Maps.has D) (Maps.size D) → WayR w' b r n mp D (Maps.has D) (Maps.size D) := by
  obtain ⟨h0, D, ho, h1, h2, h3⟩ := h
  refine ⟨D, ho, fun w' r hr => ⟨hr, h0, h1, h2, h3, fun x hx => ?_⟩⟩
  rw [h1] at hx
  have := of_decide_eq_true hx
  refine ⟨x.toNat, by omega, ?_, this.2⟩
  by_cases e : x.toNat < 4096
  · exact e
  · have e2 := this.2
    rw [h0 _ (by omega)] at e2
    cases e2
theorem WayR.done {w : World} {b r n cnt : Nat} {mp : Nat → Option (Nat × Bool)} {D : DataW Unit} {left : Lit → Bool} (h : WayR w b r n mp D left cnt) : WayM w b n mp := ⟨h.out, D, h.rg.owns, h.has, h.at_, h.size⟩
theorem WayR.kept {w w' : World} {b r n cnt : Nat} {mp : Nat → Option (Nat × Bool)} {D : DataW Unit} {left : Lit → Bool} (h : WayR w b r n mp D left cnt) (hb : Below w.heap.size w w') : WayR w' b r n mp D left cnt :=
  ⟨h.rg.kept (grown_below (row := none) hb) (by simp) (by simp), h.out, h.has, h.at_, h.size, h.left⟩
/-- The range's step: a page that has not come yet, and where it leads. -/
theorem WayR.next {w w1 : World} {b r n cnt cnt1 p : Nat} {mp : Nat → Option (Nat × Bool)} {D : DataW Unit} {left : Lit → Bool} (h : WayR w b r n mp D left cnt) (h1 : w1.ranges Try.prog 3 wayR b r n D (fun z => left z && !z.sameKey (.int .i64 (p : Int))) cnt1) : WayR w1 b r n mp D (fun z => left z && !z.sameKey (.int .i64 (p : Int))) cnt1 :=
  ⟨h1, h.out, h.has, h.at_, h.size, fun x hx => h.left x (by simp at hx; exact hx.1)⟩
/-- 'delete(m, page)' of the page that has come. -/
theorem WayR.drop {w : World} {b r n cnt p : Nat} {mp : Nat → Option (Nat × Bool)} {D : DataW Unit} {left : Lit → Bool} (h : WayR w b r n mp D left cnt) (hs : (mp p).isSome = true) (hp : p < 4096) (hl : left (.int .i64 (p : Int)) = false) (ty : TypeId) :
    ∃ w' D' cnt', (Builtin.delete_ #[28, 3] ty #[.map (some b), .int .i64 (p : Int)]).run Try.prog w = .ok (.tuple #[]) w' ∧ WayR w' b r n (del mp p) D' left cnt' ∧ cnt' ≤ cnt ∧ w.mapTurned w' b := by
  obtain ⟨w', cnt', hrun, hrg, hc, ht⟩ := h.rg.drop keyI Try.underlying28 (key_num (x := p) (by omega) (by omega)) ty
  have ek : ∀ x : Int, x ≠ (p : Int) → (Lit.int .i64 x).sameKey (.int .i64 (p : Int)) = false := fun x hx => by simp [Lit.sameKey]; omega
  have hown := h.rg.owns
  refine ⟨w', D.del (.int .i64 (p : Int)), cnt', hrun, ⟨?_, fun q hq => ?_, fun x => ?_, fun q f m hq z => ?_, ?_, fun x hx => ?_⟩, hc, ht⟩
  · have e : (fun x => left x && !x.sameKey (.int .i64 (p : Int))) = left := by
      funext z
      cases hz : left z with
      | false => rfl
      | true =>
        cases hk : z.sameKey (.int .i64 (p : Int)) with
        | false => rfl
        | true =>
          exfalso
          cases z with
          | int q y =>
            simp [Lit.sameKey] at hk
            obtain ⟨rfl, rfl⟩ := hk
            rw [hl] at hz
            cases hz
          | _ => simp [Lit.sameKey] at hk
    rw [e] at hrg
    exact hrg
  · unfold del; split
    · rfl
    · exact h.out q hq
  · by_cases e : x = p
    · subst e; rw [has_del_same]; simp [del]
    · rw [has_del_other (by simp; omega), h.has x]
      by_cases hx : 0 ≤ x
      · have e2 : ¬ x.toNat = p := by omega
        simp [del, hx, e2]
      · simp [hx]
  · unfold del at hq
    split at hq
    · cases hq
    · rw [atKey_del_other (by simp; omega)]
      exact h.at_ q f m hq z
  · have := size_del (D := D) (k := .int .i64 (p : Int)) (hown.tidy keyI)
    rw [h.has p, h.size] at this
    have h2 := cntN_del mp p hs 4096 hp
    simp [hs] at this
    omega
  · obtain ⟨q, e1, e2, e3⟩ := h.left x hx
    refine ⟨q, e1, e2, ?_⟩
    unfold del
    rw [if_neg (fun e => by subst e; rw [e1, hl] at hx; cases hx)]
    exact e3
end Go.Proofs.Ytliljicmkgbfpaa
