import Derived.Test.YtodionedjokdmaaRd
import Derived.Deep.RegionLaw
namespace Go.Proofs.Ytodionedjokdmaa
open Go.RowKit
set_option linter.unusedVariables false
set_option linter.unusedSimpArgs false

/-- A slice of single cells reads as a list of values. -/
def ReadsV (w : World) (v : Value) (us : List Value) : Prop :=
  (v = .slice none 0 0 ∧ us = []) ∨ ∃ b off cap, v = .slice (some ⟨b, off, none⟩) us.length cap ∧ b < w.heap.size ∧ us.length ≤ 140737488351232 ∧
    ∀ i u, us[i]? = some u → w.cell? ⟨b, off + i, none⟩ = some u
theorem ReadsV.below {w w' : World} {v : Value} {us : List Value} (h : ReadsV w v us) (hb : Below w.heap.size w w') : ReadsV w' v us := by
  rcases h with h | ⟨b, off, cap, h1, h2, h3, h4⟩
  · exact .inl h
  · refine .inr ⟨b, off, cap, h1, Nat.lt_of_lt_of_le h2 hb.size, h3, fun i p hp => ?_⟩
    rw [hb.cell (p := ⟨b, _, none⟩) h2]
    exact h4 i p hp
theorem info24 : (Try.prog.info? 44).map (·.size) = some 2 := by kernel_rfl
theorem owns_set {w : World} {base : Nat} {e : TypeId} {size : Nat} {v : Value} {n : Nat} {xs : List Value} (h : w.ownsRow base e size v n xs) (a : Addr) (u : Value) (hne : some a.block ≠ v.ownBlock) : (w.setCell a u).ownsRow base e size v n xs :=
  h.kept (row := some a.block) ⟨rfl, rfl, rfl, by simp, fun k _ hk => heap_setCell_other w a k u (fun e => hk (by simp [e]))⟩ (.inr fun e => hne e.symm)
/-- What holds while a label is made. -/
def Making (w : World) (D : Int) (m : List (Nat × Int)) (v : Value) (wr : World) : Prop :=
  wr.ownsRow (w.heap.size + 2) 101 2 v m.length (F m) ∧ wr.heap[w.heap.size + 1]? = some (.cells #[.int .i64 D, v] 44) ∧ wr.heap[w.heap.size]? = some (.cells #[.int .i64 0, .slice none 0 0] 44) ∧
    Below w.heap.size w wr ∧ w.heap.size + 2 ≤ wr.heap.size
theorem Making.l {w wr : World} {D : Int} {m : List (Nat × Int)} {v : Value} (h : Making w D m v wr) : wr.cell? ⟨w.heap.size + 1, 1, none⟩ = some v := by
  rw [cell_of_row wr (w.heap.size + 1) 1 _ 44 (0, 0) h.2.1]; rfl
theorem Making.apart {w wr : World} {D : Int} {m : List (Nat × Int)} {v : Value} (h : Making w D m v wr) : some (w.heap.size + 1) ≠ v.ownBlock ∧ some w.heap.size ≠ v.ownBlock := by
  constructor
  · intro e; have := (h.1.lt _ e.symm).1; omega
  · intro e; have := (h.1.lt _ e.symm).1; omega
theorem Making.grown {w wr w1 : World} {D : Int} {m : List (Nat × Int)} {v : Value} {o : Obj} (h : Making w D m v wr) (hg : (wr.alloc o).drew.grownBy w1 v.ownBlock) :
    w1.heap[w.heap.size + 1]? = some (.cells #[.int .i64 D, v] 44) ∧ w1.heap[w.heap.size]? = some (.cells #[.int .i64 0, .slice none 0 0] 44) ∧ Below w.heap.size w w1 ∧ w.heap.size + 2 ≤ w1.heap.size := by
  obtain ⟨h1, h2, h3, h4, h5⟩ := h
  have ap := Making.apart ⟨h1, h2, h3, h4, h5⟩
  refine ⟨?_, ?_, ((h4.alloc (by omega) o).drew).grown hg (by simp; omega) (fun k hk => by have := (h1.lt k hk).1; omega), by have := hg.size; simp at this; omega⟩
  · rw [hg.block _ (by simp; omega) ap.1]; show (wr.alloc o).heap[_]? = _; rw [Below.heap_alloc _ _ _ (by omega)]; exact h2
  · rw [hg.block _ (by simp; omega) ap.2]; show (wr.alloc o).heap[_]? = _; rw [Below.heap_alloc _ _ _ (by omega)]; exact h3
end Go.Proofs.Ytodionedjokdmaa
