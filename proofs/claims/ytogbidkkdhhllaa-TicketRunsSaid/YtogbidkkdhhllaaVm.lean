/- A law's own map of numbers of 64 bits to bools. -/
import Derived.Test.YtogbidkkdhhllaaVa
import Derived.Maps.OwnSet
import Derived.Maps.OwnOps
set_option linter.unusedVariables false
set_option linter.unusedSimpArgs false
namespace Go.Proofs.Ytogbidkkdhhllaa
open Go.RowKit Go.Maps
set_option linter.unusedVariables false
set_option linter.unusedSimpArgs false
theorem keyU : Keyed Try.prog 25 := int_keyed Try.underlying25
theorem zeroB (w : World) : (zeroValue 4).run Try.prog w = .ok (.bool false) w := by kernel_rfl
theorem plain_bool_inv {v : Value} {z : DataW Unit × List MemPlace} (h : plainElem Try.prog 4 v = some z) : ∃ x, v = .bool x ∧ z = (.lit (.bool x), []) := by
  unfold plainElem at h
  rw [Try.underlying4] at h
  cases v <;> simp at h
  subst h
  exact ⟨_, rfl, rfl⟩
theorem wf_u64 {x : Nat} (h : x < 18446744073709551616) : (Lit.int .u64 (x : Int)).wf = true := by
  simp [Lit.wf, IntKind.min, IntKind.max, IntKind.signed, IntKind.bits]; omega
theorem key_u64 {x : Nat} (h : x < 18446744073709551616) : keyOf Try.prog 25 (.int .u64 (x : Int)) = some (.int .u64 (x : Int)) := keyOf_int_mk Try.underlying25 (wf_u64 h)
def updB (g : Nat → Bool) (j : Nat) (b : Bool) : Nat → Bool := fun i => if i = j then b else g i
/-- What the map in block G says of each number. -/
def MapB (w : World) (G m : Nat) (g : Nat → Bool) : Prop := ∃ D : DataW Unit, w.ownsMap Try.prog 25 (plainElem Try.prog 4) G m D ∧ ∀ i : Nat, D.atKey (.int .u64 (i : Int)) (.lit (.bool false)) = .lit (.bool (g i))
variable {w : World} {G m j : Nat} {g : Nat → Bool}
theorem MapB.new (w : World) : MapB (w.alloc (.map #[] 0)) w.heap.size 0 (fun _ => false) := ⟨.map [], World.ownsMap_made _ _ _ _, fun i => rfl⟩
theorem MapB.same {w' : World} (h : MapB w G m g) (hs : w'.heap[G]? = w.heap[G]?) : MapB w' G m g := by
  obtain ⟨D, ⟨es, clock, h1, h2⟩, h3⟩ := h
  exact ⟨D, ⟨es, clock, by rw [hs]; exact h1, h2⟩, h3⟩
theorem MapB.lt (h : MapB w G m g) : G < w.heap.size := by
  obtain ⟨D, ho, _⟩ := h; exact ho.lt
theorem MapB.not_row {cs : Array Value} {t : TypeId} (h : MapB w G m g) : w.heap[G]? ≠ some (Obj.cells cs t) := fun e => by
  obtain ⟨D, ⟨es, clock, h1, _⟩, _⟩ := h
  rw [h1] at e
  cases e
theorem MapB.at_ (h : MapB w G m g) (hj : j < 18446744073709551616) : (Instr.lookup 34 (.map (some G)) (.int .u64 (j : Int)) false).run Try.prog w = .ok (.bool (g j)) w := by
  obtain ⟨D, ho, h1⟩ := h
  obtain ⟨v, ps, hrun, hv⟩ := ho.lookup keyU Try.underlying34 (zeroB w) (plainElem_bool Try.underlying4 false) (key_u64 hj)
  obtain ⟨y, rfl, hy⟩ := plain_bool_inv hv
  rw [hrun]
  rw [h1 j] at hy
  injection hy with hy _
  injection hy with hy
  injection hy with hy
  rw [hy]
theorem MapB.store (h : MapB w G m g) (hm : m < maxLen) (hj : j < 18446744073709551616) (b : Bool) :
    ∃ w', (Instr.mapUpdate 34 (.map (some G)) (.int .u64 (j : Int)) (.bool b)).run Try.prog w = .ok () w' ∧ MapB w' G (m + 1) (updB g j b) ∧ Turn [G] w w' := by
  obtain ⟨D, ho, h1⟩ := h
  obtain ⟨w', hrun, ho', hg⟩ := ho.update keyU Try.underlying34 hm (key_u64 hj) (plainElem_bool Try.underlying4 b)
  have hk : WideAt.IsKeyLit (.int .u64 (j : Int)) := keyU.key (key_u64 hj)
  refine ⟨w', hrun, ⟨_, ho', fun i => ?_⟩, ⟨hg.os, hg.tape, hg.output, hg.size, fun k hk hn => hg.block k hk (fun e => hn (by injection e with e; rw [e]; simp))⟩⟩
  by_cases e : i = j
  · subst e; rw [atKey_put_same ho.isMap hk]; simp [updB]
  · rw [atKey_put_other (by simp; omega), h1 i]; simp [updB, e]
end Go.Proofs.Ytogbidkkdhhllaa
