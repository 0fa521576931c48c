/- maps.Keys of no map; AppendSeq, Collect, Sorted. -/
import Derived.Test.YtodionedjokdmaaIc
set_option linter.unusedVariables false
set_option linter.unusedSimpArgs false
namespace Go.Proofs.Ytodionedjokdmaa
open Go.RowKit Go.Maps
set_option linter.unusedVariables false
set_option linter.unusedSimpArgs false
attribute [local go_sem] Oper.semAt_some
def ZK0 (X : Nat) (W : World) : Prop := W.heap[X]? = some (Obj.cells #[.map none] 90)
theorem range_nil (w : World) : (Instr.range 90 (.map none)).run Try.prog w = .ok (.pointer (some ⟨w.heap.size, 0, none⟩)) (w.alloc (.mapIter none 0 #[] 0)) := by
  simp [Instr.range, run_underlying Try.underlying90, Result.andThen]
theorem next_nil {w : World} {r : Nat} (h : w.heap[r]? = some (.mapIter none 0 #[] 0)) (ty : TypeId) : (Instr.next (.pointer (some ⟨r, 0, none⟩)) false ty).run Try.prog w = .ok (.tuple #[.bool false]) w := by
  simp only [Instr.next, getObj, Sem.run_bind, Sem.run, h, Result.andThen]
  rfl
set_option maxHeartbeats 4000000 in
set_option maxRecDepth 100000 in
theorem keys_nil (X : Nat) : Iter Try.prog 47 #[] #[.pointer (some ⟨X, 0, none⟩)] encU ownN [X] (XK []) (ZK0 X) (FinK []) := by
  intro l mm J Jx hJ hJx hY T W hT0 hT hZ h0
  unfold ZK0 at hZ
  have c0 : W.cell? ⟨X, 0, none⟩ = some (.map none) := by rw [cell_of_row _ _ 0 _ _ (0, 0) hZ]; rfl
  have HJ := Lib.hid hJ
  have HS := Lib.hid (And.intro hT0 (And.intro hT h0))
  have qr := range_nil W
  have hb0 := below_alloc1 W (.mapIter none 0 #[] 0)
  have hn0 := heap_alloc_new W (.mapIter none 0 #[] 0)
  obtain ⟨w1, e1⟩ : ∃ w1, W.alloc (.mapIter none 0 #[] 0) = w1 := ⟨_, rfl⟩
  obtain ⟨r, er⟩ : ∃ r, W.heap.size = r := ⟨_, rfl⟩
  rw [e1, er] at qr
  rw [e1] at hb0 hn0
  rw [er] at hn0
  have qn := next_nil hn0 0
  have HF : Hid ((∃ xs, FinK [] xs ∧ J T xs w1 ∧ Same T W w1) ∨ ∃ pre, Jx T pre w1 ∧ Same T W w1) := Lib.hid (.inl ⟨[], ⟨List.nodup_nil, by simp⟩, hJ.more h0 hT hb0 (fun b hb => ⟨.inl hb, Nat.lt_of_lt_of_le (hT b hb) hb0.size⟩), fun b hb => hb0.block b (hT b hb)⟩)
  clear hY hJ hJx hT0 hT h0 hZ e1 er hb0 hn0 HS HJ
  rw [show (#[] ++ #[Value.func (.yield l) #[] #[]] ++ #[Value.pointer (some ⟨X, 0, none⟩)] : Array Value) = #[Value.func (.yield l) #[] #[], Value.pointer (some ⟨X, 0, none⟩)] from rfl]
  go_enter Try.func47, Try.ntmps47
  go_wp2_with fail
  go_loopg [3] 0 (fun gh v3 wr => wr = w1)
  case atStart => rfl
  case round =>
    subst hrel
    go_wp2_with fail
    go_end0
    exact ⟨⟨_, rfl⟩, HF.out⟩
end Go.Proofs.Ytodionedjokdmaa
