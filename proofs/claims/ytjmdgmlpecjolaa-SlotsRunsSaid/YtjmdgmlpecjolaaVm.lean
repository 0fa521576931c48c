/- A law's own maps of numbers that count. -/
import Derived.Test.YtjmdgmlpecjolaaVa
import Derived.Maps.OwnSet
import Derived.Maps.OwnOps
set_option linter.unusedVariables false
set_option linter.unusedSimpArgs false
namespace Go.Proofs.Ytjmdgmlpecjolaa
open Go.RowKit Go.Maps
set_option linter.unusedVariables false
set_option linter.unusedSimpArgs false
theorem keyI : Keyed Try.prog 3 := int_keyed Try.underlying3
theorem plain_int_inv {v : Value} {z : DataW Unit × List MemPlace} (h : plainElem Try.prog 3 v = some z) : ∃ x, v = .int .i64 x ∧ z = (.lit (.int .i64 x), []) := by
  unfold plainElem at h
  rw [Try.underlying3] at h
  cases v <;> simp at h
  obtain ⟨⟨h1, h2⟩, rfl⟩ := h
  subst h1
  exact ⟨_, rfl, rfl⟩
theorem zeroI (w : World) : (zeroValue 3).run Try.prog w = .ok (.int .i64 0) w := by kernel_rfl
theorem wf_i64 {x : Int} (h0 : -9223372036854775808 ≤ x) (h : x ≤ 9223372036854775807) : (Lit.int .i64 x).wf = true := by
  simp [Lit.wf, IntKind.min, IntKind.max, IntKind.signed, IntKind.bits]; omega
theorem key_i64 {x : Int} (h0 : -9223372036854775808 ≤ x) (h : x ≤ 9223372036854775807) : keyOf Try.prog 3 (.int .i64 x) = some (.int .i64 x) := keyOf_int_mk Try.underlying3 (wf_i64 h0 h)
def updF {β : Type} (g : Int → β) (j : Int) (b : β) : Int → β := fun i => if i = j then b else g i
theorem updF_same {β : Type} (g : Int → β) (j : Int) (b : β) : updF g j b j = b := by unfold updF; rw [if_pos rfl]
theorem updF_other {β : Type} (g : Int → β) (b : β) {i j : Int} (h : i ≠ j) : updF g j b i = g i := by unfold updF; rw [if_neg h]
variable {w : World} {G m s : Nat} {j : Int}
/-- What the map in block G counts of each number; s numbers are counted. -/
def MapI (w : World) (G m s : Nat) (g : Int → Int) : Prop := ∃ D : DataW Unit, w.ownsMap Try.prog 3 (plainElem Try.prog 3) G m D ∧ (∀ i : Int, D.atKey (.int .i64 i) (.lit (.int .i64 0)) = .lit (.int .i64 (g i))) ∧ (∀ i : Int, Maps.has D (.int .i64 i) = decide (g i ≠ 0)) ∧ Maps.size D = s
variable {f : Int → Int}
theorem MapI.new (w : World) : MapI (w.alloc (.map #[] 0)) w.heap.size 0 0 (fun _ => 0) := ⟨.map [], World.ownsMap_made _ _ _ _, fun i => rfl, fun i => rfl, rfl⟩
theorem MapI.same {w' : World} (h : MapI w G m s f) (hs : w'.heap[G]? = w.heap[G]?) : MapI w' G m s f := by
  obtain ⟨D, ⟨es, clock, h1, h2⟩, h3⟩ := h
  exact ⟨D, ⟨es, clock, by rw [hs]; exact h1, h2⟩, h3⟩
theorem MapI.lt (h : MapI w G m s f) : G < w.heap.size := by
  obtain ⟨D, ho, _⟩ := h; exact ho.lt
theorem MapI.not_row {cs : Array Value} {t : TypeId} (h : MapI w G m s f) : w.heap[G]? ≠ some (Obj.cells cs t) := fun e => by
  obtain ⟨D, ⟨es, clock, h1, _⟩, _⟩ := h
  rw [h1] at e
  cases e
theorem MapI.len (h : MapI w G m s f) (ty : TypeId) : (Builtin.len_ #[40] ty #[.map (some G)]).run Try.prog w = .ok (.int .i64 (s : Int)) w := by
  obtain ⟨D, ho, _, _, h3⟩ := h
  rw [ho.len Try.underlying40, h3]
theorem MapI.at_ (h : MapI w G m s f) (h0 : -9223372036854775808 ≤ j) (hj : j ≤ 9223372036854775807) : (Instr.lookup 40 (.map (some G)) (.int .i64 j) false).run Try.prog w = .ok (.int .i64 (f j)) w := by
  obtain ⟨D, ho, h1, _⟩ := h
  obtain ⟨v, ps, hrun, hv⟩ := ho.lookup keyI Try.underlying40 (zeroI w) (plainElem_int Try.underlying3 (wf_i64 (x := 0) (by omega) (by omega))) (key_i64 h0 hj)
  obtain ⟨y, rfl, hy⟩ := plain_int_inv hv
  rw [hrun]
  rw [h1 j] at hy
  injection hy with hy _
  injection hy with hy
  injection hy with _ hy
  rw [hy]
theorem MapI.store {x : Int} (h : MapI w G m s f) (hm : m < maxLen) (h0 : -9223372036854775808 ≤ j) (hj : j ≤ 9223372036854775807) (hx : 0 < x ∧ x ≤ 9223372036854775807) :
    ∃ w', (Instr.mapUpdate 40 (.map (some G)) (.int .i64 j) (.int .i64 x)).run Try.prog w = .ok () w' ∧ MapI w' G (m + 1) (if f j = 0 then s + 1 else s) (updF f j x) ∧ Turn [G] w w' := by
  obtain ⟨D, ho, h1, h2, h3⟩ := h
  obtain ⟨w', hrun, ho', hg⟩ := ho.update keyI Try.underlying40 hm (key_i64 h0 hj) (plainElem_int Try.underlying3 (wf_i64 (x := x) (by omega) (by omega)))
  have hk : WideAt.IsKeyLit (.int .i64 j) := keyI.key (key_i64 h0 hj)
  refine ⟨w', hrun, ⟨_, ho', fun i => ?_, fun i => ?_, ?_⟩, ⟨hg.os, hg.tape, hg.output, hg.size, fun k hk hn => hg.block k hk (fun e => hn (by injection e with e; rw [e]; simp))⟩⟩
  · by_cases e : i = j
    · subst e; rw [atKey_put_same ho.isMap hk]; simp [updF]
    · rw [atKey_put_other (by simp; omega), h1 i]; simp [updF, e]
  · by_cases e : i = j
    · subst e; rw [has_put_same ho.isMap hk]; simp [updF]; omega
    · rw [has_put_other (by simp; omega), h2 i]; simp [updF, e]
  · rw [size_put (ho.tidy keyI), h2 j, h3]
    by_cases e : f j = 0 <;> simp [e]
end Go.Proofs.Ytjmdgmlpecjolaa
