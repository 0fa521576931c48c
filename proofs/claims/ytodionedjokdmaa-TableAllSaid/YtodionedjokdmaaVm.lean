/- Maps of numbers of 64 bits to anything. -/
import Derived.Test.YtodionedjokdmaaVa
import Derived.Maps.OwnSet
import Derived.Maps.OwnOps
import Derived.Maps.RangeWalk
set_option linter.unusedVariables false
set_option linter.unusedSimpArgs false
namespace Go.Proofs.Ytodionedjokdmaa
open Go.RowKit Go.Maps
set_option linter.unusedVariables false
set_option linter.unusedSimpArgs false
theorem keyU : Keyed Try.prog 28 := int_keyed Try.underlying28
theorem wf_u64 {x : Int} (h0 : 0 ≤ x) (h : x ≤ 18446744073709551615) : (Lit.int .u64 x).wf = true := by
  simp [Lit.wf, IntKind.min, IntKind.max, IntKind.signed, IntKind.bits]; omega
theorem key_u64 {x : Int} (h0 : 0 ≤ x) (h : x ≤ 18446744073709551615) : keyOf Try.prog 28 (.int .u64 x) = some (.int .u64 x) := keyOf_int_mk Try.underlying28 (wf_u64 h0 h)
structure U64 (n : Nat) : Prop where
  le : (n : Int) ≤ 18446744073709551615
theorem key_nat {n : Nat} (h : U64 n) : keyOf Try.prog 28 (.int .u64 (n : Int)) = some (.int .u64 (n : Int)) := key_u64 (by omega) h.le
def updN {β : Type} (g : Nat → β) (j : Nat) (b : β) : Nat → β := fun i => if i = j then b else g i
theorem updN_same {β : Type} (g : Nat → β) (j : Nat) (b : β) : updN g j b j = b := if_pos rfl
theorem updN_other {β : Type} (g : Nat → β) (b : β) {i j : Nat} (h : i ≠ j) : updN g j b i = g i := if_neg h
theorem turn_map {w w' : World} {b : Nat} (h : w.mapTurned w' b) : Turn [b] w w' := by
  obtain ⟨es, clock, es', clock', hb, rfl⟩ := h
  exact ⟨rfl, rfl, rfl, by simp [ChangeMaps.setBlock], fun i _ hi => ChangeMaps.heap_setBlock_other hb _ (fun e => hi (by rw [e]; simp))⟩
/-- How elements are read. -/
structure Rd {β : Type} (vl : β → Value) (R : Value → Option (DataW β × List MemPlace)) : Prop where
  go : ∀ x, R (vl x) = some (.held x, [])
  back : ∀ v y, R v = some y → ∃ x, v = vl x ∧ y = (.held x, [])
/-- What the map in block G has, at these numbers. -/
def MapG {β : Type} (R : Value → Option (DataW β × List MemPlace)) (w : World) (G m : Nat) (ns : List Nat) (g : Nat → Option β) : Prop :=
  ns.Nodup ∧ (∀ n, (g n).isSome = true ↔ n ∈ ns) ∧ ∃ D : DataW β, w.ownsMap Try.prog 28 R G m D ∧ (∀ i : Nat, Maps.has D (.int .u64 (i : Int)) = (g i).isSome) ∧ (∀ (i : Nat) (x : β), g i = some x → ∀ z, D.atKey (.int .u64 (i : Int)) z = .held x) ∧ Maps.size D = ns.length
section
variable {β : Type} {vl : β → Value} {R : Value → Option (DataW β × List MemPlace)} {w w' : World} {G m j : Nat} {ns : List Nat} {g : Nat → Option β}
theorem MapG.new (w : World) : MapG R (w.alloc (.map #[] 0)) w.heap.size 0 [] (fun _ => none) := ⟨List.nodup_nil, fun n => by simp, .map [], World.ownsMap_made _ _ _ _, fun i => rfl, fun i x h => (by cases h), rfl⟩
theorem MapG.same (h : MapG R w G m ns g) (hs : w'.heap[G]? = w.heap[G]?) : MapG R w' G m ns g := by
  obtain ⟨h0, h1, D, ⟨es, clock, h2, h3⟩, h4⟩ := h
  exact ⟨h0, h1, D, ⟨es, clock, by rw [hs]; exact h2, h3⟩, h4⟩
theorem MapG.lt (h : MapG R w G m ns g) : G < w.heap.size := by
  obtain ⟨_, _, D, ho, _⟩ := h; exact ho.lt
theorem MapG.not_row {cs : Array Value} {t : TypeId} (h : MapG R w G m ns g) : w.heap[G]? ≠ some (Obj.cells cs t) := fun e => by
  obtain ⟨_, _, D, ⟨es, clock, h1, _⟩, _⟩ := h
  rw [h1] at e
  cases e
theorem MapG.tight (h : MapG R w G m ns g) : MapG R w G ns.length ns g := by
  obtain ⟨h0, h1, D, ⟨es, clock, k1, k2, k3, k4⟩, h2, h3, h4⟩ := h
  refine ⟨h0, h1, D, ⟨es, clock, k1, k2, ?_, k4⟩, h2, h3, h4⟩
  rw [← h4, k4]
  simp [Maps.size, length_sorted]
theorem MapG.len {t e : TypeId} (ht : Try.prog.underlying t = some (.map 28 e)) (h : MapG R w G m ns g) (ty : TypeId) : (Builtin.len_ #[t] ty #[.map (some G)]).run Try.prog w = .ok (.int .i64 (ns.length : Int)) w := by
  obtain ⟨_, _, D, ho, _, _, h3⟩ := h
  rw [ho.len ht, h3]
theorem MapG.at_ {t e : TypeId} (ht : Try.prog.underlying t = some (.map 28 e)) (hr : Rd vl R) {z : β} (hz : (zeroValue e).run Try.prog w = .ok (vl z) w) (h : MapG R w G m ns g) (hj : U64 j) :
    (Instr.lookup t (.map (some G)) (.int .u64 (j : Int)) false).run Try.prog w = .ok (vl ((g j).getD z)) w := by
  obtain ⟨_, _, D, ho, h1, h2, _⟩ := h
  obtain ⟨v, ps, hrun, hv⟩ := ho.lookup keyU ht hz (hr.go z) (key_nat hj)
  rw [hrun]
  obtain ⟨x, rfl, hx⟩ := hr.back _ _ hv
  have : x = (g j).getD z := by
    replace hx := (Prod.mk.inj hx).1
    cases hg : g j with
    | none =>
      have hn : Maps.has D (.int .u64 (j : Int)) = false := by rw [h1 j, hg]; rfl
      rw [atKey_of_not_has hn] at hx
      replace hx := DataW.held.inj hx
      exact hx.symm
    | some y =>
      rw [h2 j y hg] at hx
      replace hx := DataW.held.inj hx
      exact hx.symm
  rw [this]
theorem MapG.at_ok {t e : TypeId} (ht : Try.prog.underlying t = some (.map 28 e)) (hr : Rd vl R) {z : β} (hz : (zeroValue e).run Try.prog w = .ok (vl z) w) (h : MapG R w G m ns g) (hj : U64 j) :
    (Instr.lookup t (.map (some G)) (.int .u64 (j : Int)) true).run Try.prog w = .ok (.tuple #[vl ((g j).getD z), .bool (g j).isSome]) w := by
  obtain ⟨_, _, D, ho, h1, h2, _⟩ := h
  obtain ⟨v, ps, hrun, hv⟩ := ho.look_ok keyU ht hz (hr.go z) (key_nat hj)
  rw [hrun, h1 j]
  obtain ⟨x, rfl, hx⟩ := hr.back _ _ hv
  have : x = (g j).getD z := by
    replace hx := (Prod.mk.inj hx).1
    cases hg : g j with
    | none =>
      have hn : Maps.has D (.int .u64 (j : Int)) = false := by rw [h1 j, hg]; rfl
      rw [atKey_of_not_has hn] at hx
      replace hx := DataW.held.inj hx
      exact hx.symm
    | some y =>
      rw [h2 j y hg] at hx
      replace hx := DataW.held.inj hx
      exact hx.symm
  rw [this]
theorem key_ne {i j : Nat} (h : i ≠ j) : (Lit.int .u64 (i : Int)) ≠ .int .u64 (j : Int) := fun e => by injection e with _ e; omega
theorem MapG.store {t e : TypeId} (ht : Try.prog.underlying t = some (.map 28 e)) (hr : Rd vl R) (h : MapG R w G m ns g) (hm : m < maxLen) (hj : U64 j) (x : β) :
    ∃ w', (Instr.mapUpdate t (.map (some G)) (.int .u64 (j : Int)) (vl x)).run Try.prog w = .ok () w' ∧ MapG R w' G (m + 1) (if j ∈ ns then ns else ns ++ [j]) (updN g j (some x)) ∧ Turn [G] w w' := by
  obtain ⟨n0, n1, D, ho, h1, h2, h3⟩ := h
  obtain ⟨w', hrun, ho', hg⟩ := ho.store keyU ht hm (key_nat hj) (hr.go x)
  have hk : WideAt.IsKeyLit (.int .u64 (j : Int)) := keyU.key (key_nat hj)
  refine ⟨w', hrun, ⟨?_, fun n => ?_, _, ho', fun i => ?_, fun i y hy z => ?_, ?_⟩, turn_map hg⟩
  · split
    · exact n0
    · rename_i hn
      exact List.nodup_append.2 ⟨n0, by simp, fun a ha b hb e => hn (by rw [List.mem_singleton.1 hb] at e; rw [← e]; exact ha)⟩
  · by_cases e : n = j
    · subst e
      rw [updN_same]
      split
      · simp [*]
      · simp
    · rw [updN_other _ _ e, n1 n]
      split
      · rfl
      · simp [e]
  · by_cases e : i = j
    · subst e; rw [has_put_same ho.isMap hk, updN_same]; rfl
    · rw [has_put_other (key_ne e), h1 i, updN_other _ _ e]
  · by_cases e : i = j
    · subst e
      rw [updN_same] at hy
      replace hy := Option.some.inj hy
      rw [atKey_put_same ho.isMap hk, hy]
    · rw [updN_other _ _ e] at hy
      rw [atKey_put_other (key_ne e)]
      exact h2 i y hy z
  · rw [size_put (ho.tidy keyU), h1 j, h3]
    by_cases e : j ∈ ns
    · rw [if_pos e, (n1 j).2 e]; rfl
    · rw [if_neg e, List.length_append]
      have : (g j).isSome = false := by
        cases hh : (g j).isSome
        · rfl
        · exact absurd ((n1 j).1 hh) e
      rw [this]; rfl
theorem MapG.drop {t e : TypeId} (ht : Try.prog.underlying t = some (.map 28 e)) (h : MapG R w G m ns g) (hj : U64 j) (ty : TypeId) :
    ∃ w', (Builtin.delete_ #[t, 28] ty #[.map (some G), .int .u64 (j : Int)]).run Try.prog w = .ok (.tuple #[]) w' ∧ MapG R w' G m (ns.filter (· != j)) (updN g j none) ∧ Turn [G] w w' := by
  obtain ⟨n0, n1, D, ho, h1, h2, h3⟩ := h
  obtain ⟨w', hrun, ho', hg⟩ := ho.drop keyU ht (key_nat hj) ty
  have hk : WideAt.IsKeyLit (.int .u64 (j : Int)) := keyU.key (key_nat hj)
  refine ⟨w', hrun, ⟨n0.filter _, fun n => ?_, _, ho', fun i => ?_, fun i y hy z => ?_, ?_⟩, turn_map hg⟩
  · by_cases e : n = j
    · subst e; rw [updN_same]; simp
    · rw [updN_other _ _ e, n1 n]; simp [e]
  · by_cases e : i = j
    · subst e; rw [has_del_same, updN_same]; rfl
    · rw [has_del_other (key_ne e), h1 i, updN_other _ _ e]
  · by_cases e : i = j
    · subst e; rw [updN_same] at hy; cases hy
    · rw [updN_other _ _ e] at hy
      rw [atKey_del_other (key_ne e)]
      exact h2 i y hy z
  · have hs := size_del (D := D) (k := .int .u64 (j : Int)) (ho.tidy keyU)
    rw [h1 j, h3] at hs
    have hf : ∀ (l : List Nat), l.Nodup → (l.filter (· != j)).length + (if j ∈ l then 1 else 0) = l.length := by
      intro l
      induction l with
      | nil => intro _; simp
      | cons a l ih =>
        intro hn
        obtain ⟨ha, hl⟩ := List.nodup_cons.1 hn
        have := ih hl
        by_cases e : a = j
        · subst e
          have hfa : l.filter (· != a) = l := List.filter_eq_self.2 fun x hx => by
            have : x ≠ a := fun e => ha (e ▸ hx)
            simpa using this
          simp [hfa]
        · have e' : (a != j) = true := by simpa using e
          have ej : ¬ j = a := fun h => e h.symm
          simp only [List.filter_cons, e', if_true, List.length_cons, List.mem_cons, ej, false_or]
          omega
    have := hf ns n0
    by_cases e : j ∈ ns
    · rw [if_pos e] at this
      rw [(n1 j).2 e] at hs
      simp at hs
      omega
    · rw [if_neg e] at this
      have e2 : (g j).isSome = false := by
        cases hh : (g j).isSome
        · rfl
        · exact absurd ((n1 j).1 hh) e
      rw [e2] at hs
      simp at hs
      omega
end
/-- Pointers to whole blocks. -/
def vP (o : Option Nat) : Value := .pointer (o.map fun b => ⟨b, 0, none⟩)
def rdP (v : Value) : Option (DataW (Option Nat) × List MemPlace) :=
  match v with
  | .pointer none => some (.held none, [])
  | .pointer (some ⟨b, 0, none⟩) => some (.held (some b), [])
  | _ => none
theorem rd_P : Rd vP rdP := ⟨fun x => by cases x <;> rfl, fun v y h => by
  unfold rdP at h
  split at h
  · injection h with h; exact ⟨none, rfl, h.symm⟩
  · rename_i b; injection h with h; exact ⟨some b, rfl, h.symm⟩
  · cases h⟩
theorem zeroP (w : World) : (zeroValue 35).run Try.prog w = .ok (vP none) w := by kernel_rfl
end Go.Proofs.Ytodionedjokdmaa
