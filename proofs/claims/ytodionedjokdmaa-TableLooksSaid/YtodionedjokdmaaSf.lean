import Derived.Test.YtodionedjokdmaaSe
namespace Go.Proofs.Ytodionedjokdmaa
open Go.RowKit
set_option linter.unusedVariables false
set_option linter.unusedSimpArgs false
attribute [local go_sem] Oper.semAt_some

theorem both_any (D E : Int) (v1 v2 : Value) (w : World) :
    Calls Try.prog 50 #[.agg #[.int .i64 D, v1], .agg #[.int .i64 E, v2]] w fun e w' =>
      e = .returned (.func (.func 54) #[] #[.pointer (some ⟨w.heap.size, 0, none⟩), .pointer (some ⟨w.heap.size + 1, 0, none⟩)]) ∧
      w' = (w.alloc (Obj.cells #[.int .i64 D, v1] 44)).alloc (Obj.cells #[.int .i64 E, v2] 44) := by
  go_enter Try.func50, Try.ntmps50
  go_wp2
  go_ret
  exact ⟨rfl, rfl⟩
theorem both_stops (n : Nat) (hn : 1 ≤ n) (B1 B2 n₀ : Nat) (D E : Int) (v1 v2 : Value) (ps qs : List (Nat × Int)) (w : World) (hn₀ : n₀ ≤ w.heap.size)
    (k1 : w.heap[B1]? = some (Obj.cells #[.int .i64 D, v1] 44)) (k2 : w.heap[B2]? = some (Obj.cells #[.int .i64 E, v2] 44)) (r1 : RC n₀ w v1 ps) (r2 : RC n₀ w v2 qs) :
    SeqStopsK Fence.wide n Try.prog 54 #[.pointer (some ⟨B1, 0, none⟩), .pointer (some ⟨B2, 0, none⟩)] encs (KpB n₀ B1 B2) (fun ys => ys = Lab.zipm D E ps qs) (fun pre => pre <+: Lab.zipm D E ps qs) (Lab.zipm D E ps qs).length w :=
  fun l J Jx W hW hJ _ hY h0 =>
    iter_in n l B1 B2 n₀ hn D E v1 v2 ps qs J Jx W hJ h0 (by rw [hW.block _ (Array.getElem?_eq_some_iff.1 k1).1]; exact k1) (by rw [hW.block _ (Array.getElem?_eq_some_iff.1 k2).1]; exact k2) (by have := hW.size; omega)
      (r1.below (hW.mono hn₀)) (r2.below (hW.mono hn₀)) hY
theorem kpB_t {n₀ B1 B2 : Nat} {A B C : World} (h : KpB n₀ B1 B2 A B) (k : KpB n₀ B1 B2 B C) : KpB n₀ B1 B2 A C :=
  ⟨h.1.trans k.1, fun o ho => k.2.1 o (h.2.1 o ho), fun o ho => k.2.2 o (h.2.2 o ho)⟩
theorem kpB_b {n₀ B1 B2 : Nat} {w : World} (hn : n₀ ≤ w.heap.size) (h1 : B1 < w.heap.size) (h2 : B2 < w.heap.size) (W : World) (l : Nat) (o o' : Obj) (hl : w.heap.size ≤ l) (h : W.heap[l]? = some o) (hc : o.isCells = false) (hw : o.isWalk = false) : KpB n₀ B1 B2 W (W.putObj l o') :=
  ⟨belowK_b hn W l o o' hl h hc hw, fun x hx => (World.putObj_heap_other (by omega)).trans hx, fun x hx => (World.putObj_heap_other (by omega)).trans hx⟩
/-- A block of cells abides. -/
theorem blk_own {β : Type} (B : Nat) (o : β → Obj) (hc : ∀ s, (o s).isCells = true) : Own (fun s W => W.heap[B]? = some (o s)) := fun s X Y row hs hg hrow =>
  (hg.block B (Array.getElem?_eq_some_iff.1 hs).1 (fun e => by obtain ⟨o', ho', hc'⟩ := hrow B e.symm; rw [hs] at ho'; cases ho'; rw [hc s] at hc'; cases hc')).trans hs
end Go.Proofs.Ytodionedjokdmaa
