import Derived.Test.YtjmfjehjlnghmaaUb
import Derived.Test.YtjmfjehjlnghmaaNd
import Derived.Test.YtjmfjehjlnghmaaSp
import Derived.Test.YtjmfjehjlnghmaaSk
import Derived.Test.YtjmfjehjlnghmaaSe
import Derived.Test.YtjmfjehjlnghmaaRc
import Derived.Test.YtjmfjehjlnghmaaRj
namespace Go.Proofs.Ytjmfjehjlnghmaa
open Go.RowKit
set_option linter.unusedVariables false
set_option linter.unusedSimpArgs false

/-- A variable of the law's own that holds a label. -/
def Lbl (w : World) (A : Nat) (D : Int) (v : Value) (ps : List (Nat × Int)) : Prop := w.heap[A]? = some (Obj.cells #[.int .i64 D, v] 31) ∧ RC w.heap.size w v ps
theorem Lbl.below {w w' : World} {A : Nat} {D : Int} {v : Value} {ps : List (Nat × Int)} (h : Lbl w A D v ps) (hb : Below w.heap.size w w') : Lbl w' A D v ps :=
  ⟨by rw [hb.block _ (Array.getElem?_eq_some_iff.1 h.1).1]; exact h.1, (h.2.below hb).mono hb.size⟩
theorem Lbl.cells {w : World} {A : Nat} {D : Int} {v : Value} {ps : List (Nat × Int)} (h : Lbl w A D v ps) : w.cell? ⟨A, 0, none⟩ = some (.int .i64 D) ∧ w.cell? ⟨A, 1, none⟩ = some v := cells2 h.1
theorem RC.form {n₀ : Nat} {w : World} {v : Value} {ps : List (Nat × Int)} (h : RC n₀ w v ps) : ∃ a n c, v = .slice a n c := by
  rcases h with ⟨rfl, _⟩ | ⟨b, off, cap, rfl, _⟩
  · exact ⟨_, _, _, rfl⟩
  · exact ⟨_, _, _, rfl⟩
/-- What a seed makes: a label that may be, its slice written out. -/
theorem seed_form (S : Int) (v : Value) (w : World) (h : Ints w v) : Calls Try.prog 10 #[.agg #[.int .i64 S, v]] w fun e w' => ∃ D a n c ps, e = .returned (.agg #[.int .i64 D, .slice a n c]) ∧ Lab.Fine D ps ∧ w'.ownsRow w.heap.size 57 2 (.slice a n c) ps.length (F ps) ∧ Below w.heap.size w w' :=
  (seed_any S v w h).mono fun e w' ⟨u, D, ps, h1, h2, h3, h4⟩ => by
    obtain ⟨a, n, c, rfl⟩ : ∃ a n c, u = .slice a n c := by
      rcases h3.2 with ⟨h, _⟩ | ⟨g', cap', cur, h, hg, _⟩
      · exact ⟨_, _, _, h⟩
      · exact ⟨_, _, _, h⟩
    exact ⟨D, a, n, c, ps, h1, h2, h3, h4⟩
end Go.Proofs.Ytjmfjehjlnghmaa
