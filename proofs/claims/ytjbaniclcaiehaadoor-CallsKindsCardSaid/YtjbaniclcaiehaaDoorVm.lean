/- A law's own maps of numbers of 64 bits: to bools, to numbers. -/
import Derived.Test.YtjbaniclcaiehaaDoorVa
import Derived.Maps.OwnSet
import Derived.Maps.OwnOps
set_option linter.unusedVariables false
set_option linter.unusedSimpArgs false
namespace Go.Proofs.YtjbaniclcaiehaaDoor
open Go.RowKit Go.Maps
set_option linter.unusedVariables false
set_option linter.unusedSimpArgs false
theorem keyU : Keyed Tryd.prog 3 := int_keyed Tryd.underlying3
theorem zeroB (w : World) : (zeroValue 4).run Tryd.prog w = .ok (.bool false) w := by kernel_rfl
theorem plain_bool_inv {v : Value} {z : DataW Unit × List MemPlace} (h : plainElem Tryd.prog 4 v = some z) : ∃ x, v = .bool x ∧ z = (.lit (.bool x), []) := by
  unfold plainElem at h
  rw [Tryd.underlying4] at h
  cases v <;> simp at h
  subst h
  exact ⟨_, rfl, rfl⟩
theorem plain_int_inv {v : Value} {z : DataW Unit × List MemPlace} (h : plainElem Tryd.prog 3 v = some z) : ∃ x, v = .int .i64 x ∧ z = (.lit (.int .i64 x), []) := by
  unfold plainElem at h
  rw [Tryd.underlying3] at h
  cases v <;> simp at h
  obtain ⟨⟨h1, h2⟩, rfl⟩ := h
  subst h1
  exact ⟨_, rfl, rfl⟩
theorem zeroI (w : World) : (zeroValue 3).run Tryd.prog w = .ok (.int .i64 0) w := by kernel_rfl
theorem wf_i64 {x : Int} (h0 : -9223372036854775808 ≤ x) (h : x ≤ 9223372036854775807) : (Lit.int .i64 x).wf = true := by
  simp [Lit.wf, IntKind.min, IntKind.max, IntKind.signed, IntKind.bits]; omega
theorem key_i64 {x : Int} (h0 : -9223372036854775808 ≤ x) (h : x ≤ 9223372036854775807) : keyOf Tryd.prog 3 (.int .i64 x) = some (.int .i64 x) := keyOf_int_mk Tryd.underlying3 (wf_i64 h0 h)
def updF {β : Type} (g : Int → β) (j : Int) (b : β) : Int → β := fun i => if i = j then b else g i
theorem updF_same {β : Type} (g : Int → β) (j : Int) (b : β) : updF g j b j = b := by unfold updF; rw [if_pos rfl]
theorem updF_other {β : Type} (g : Int → β) (b : β) {i j : Int} (h : i ≠ j) : updF g j b i = g i := by unfold updF; rw [if_neg h]
/-- What the map in block G says of each number. -/
def MapB (w : World) (G m : Nat) (g : Int → Bool) : Prop := ∃ D : DataW Unit, w.ownsMap Tryd.prog 3 (plainElem Tryd.prog 4) G m D ∧ ∀ i : Int, D.atKey (.int .i64 i) (.lit (.bool false)) = .lit (.bool (g i))
variable {w : World} {G m s : Nat} {j : Int} {g : Int → Bool}
theorem MapB.new (w : World) : MapB (w.alloc (.map #[] 0)) w.heap.size 0 (fun _ => false) := ⟨.map [], World.ownsMap_made _ _ _ _, fun i => rfl⟩
theorem MapB.same {w' : World} (h : MapB w G m g) (hs : w'.heap[G]? = w.heap[G]?) : MapB w' G m g := by
  obtain ⟨D, ⟨es, clock, h1, h2⟩, h3⟩ := h
  exact ⟨D, ⟨es, clock, by rw [hs]; exact h1, h2⟩, h3⟩
theorem MapB.lt (h : MapB w G m g) : G < w.heap.size := by
  obtain ⟨D, ho, _⟩ := h; exact ho.lt
theorem MapB.not_row {cs : Array Value} {t : TypeId} (h : MapB w G m g) : w.heap[G]? ≠ some (Obj.cells cs t) := fun e => by
  obtain ⟨D, ⟨es, clock, h1, _⟩, _⟩ := h
  rw [h1] at e
  cases e
theorem MapB.at_ (h : MapB w G m g) (h0 : -9223372036854775808 ≤ j) (hj : j ≤ 9223372036854775807) : (Instr.lookup 35 (.map (some G)) (.int .i64 j) false).run Tryd.prog w = .ok (.bool (g j)) w := by
  obtain ⟨D, ho, h1⟩ := h
  obtain ⟨v, ps, hrun, hv⟩ := ho.lookup keyU Tryd.underlying35 (zeroB w) (plainElem_bool Tryd.underlying4 false) (key_i64 h0 hj)
  obtain ⟨y, rfl, hy⟩ := plain_bool_inv hv
  rw [hrun]
  rw [h1 j] at hy
  injection hy with hy _
  injection hy with hy
  injection hy with hy
  rw [hy]
theorem MapB.store (h : MapB w G m g) (hm : m < maxLen) (h0 : -9223372036854775808 ≤ j) (hj : j ≤ 9223372036854775807) (b : Bool) :
    ∃ w', (Instr.mapUpdate 35 (.map (some G)) (.int .i64 j) (.bool b)).run Tryd.prog w = .ok () w' ∧ MapB w' G (m + 1) (updF g j b) ∧ Turn [G] w w' := by
  obtain ⟨D, ho, h1⟩ := h
  obtain ⟨w', hrun, ho', hg⟩ := ho.update keyU Tryd.underlying35 hm (key_i64 h0 hj) (plainElem_bool Tryd.underlying4 b)
  have hk : WideAt.IsKeyLit (.int .i64 j) := keyU.key (key_i64 h0 hj)
  refine ⟨w', hrun, ⟨_, ho', fun i => ?_⟩, ⟨hg.os, hg.tape, hg.output, hg.size, fun k hk hn => hg.block k hk (fun e => hn (by injection e with e; rw [e]; simp))⟩⟩
  by_cases e : i = j
  · subst e; rw [atKey_put_same ho.isMap hk]; simp [updF]
  · rw [atKey_put_other (by simp; omega), h1 i]; simp [updF, e]
end Go.Proofs.YtjbaniclcaiehaaDoor
