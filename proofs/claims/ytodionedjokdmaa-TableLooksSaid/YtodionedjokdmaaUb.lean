import Derived.Test.YtodionedjokdmaaSo
import Derived.Test.YtodionedjokdmaaSf
import Derived.Test.YtodionedjokdmaaRb
import Derived.Test.YtodionedjokdmaaSj
import Derived.Test.YtodionedjokdmaaRj
import Derived.Laws.AppendOwn
import Derived.Laws.OwnMore
import Derived.OwnWalk
import Derived.Test.YtodionedjokdmaaNd
namespace Go.Proofs.Ytodionedjokdmaa
open Go.RowKit
set_option linter.unusedVariables false
set_option linter.unusedSimpArgs false

/-- A call's label, in memory laid since X. -/
def LVq (X w : World) (G : Int → List (Nat × Int) → Prop) (y : Value) : Prop := ∃ D a n c ps, y = .agg #[.int .i64 D, .slice a n c] ∧ G D ps ∧ w.ownsRow X.heap.size 101 2 (.slice a n c) ps.length (F ps)
/-- A new variable, not yet stored into. -/
def AV (X w : World) (p : Value) : Prop := ∃ A, p = .pointer (some ⟨A, 0, none⟩) ∧ X.heap.size ≤ A ∧ ∃ x u, w.heap[A]? = some (Obj.cells #[x, u] 44)
/-- A new variable that holds a call's label. -/
def SV (w : World) (p y : Value) : Prop := ∃ A D v, p = .pointer (some ⟨A, 0, none⟩) ∧ y = .agg #[.int .i64 D, v] ∧ w.heap[A]? = some (Obj.cells #[.int .i64 D, v] 44)
theorem LVq.below {X w w' : World} {G : Int → List (Nat × Int) → Prop} {y : Value} (h : LVq X w G y) (hb : Below w.heap.size w w') : LVq X w' G y := by
  obtain ⟨D, a, n, c, ps, h1, h2, h3⟩ := h
  exact ⟨D, a, n, c, ps, h1, h2, owns_below h3 hb⟩
theorem AV.below {X w w' : World} {p : Value} (h : AV X w p) (hb : Below w.heap.size w w') : AV X w' p := by
  obtain ⟨A, h1, h2, x, u, h3⟩ := h
  exact ⟨A, h1, h2, x, u, by rw [hb.block _ (Array.getElem?_eq_some_iff.1 h3).1]; exact h3⟩
theorem SV.below {w w' : World} {p y : Value} (h : SV w p y) (hb : Below w.heap.size w w') : SV w' p y := by
  obtain ⟨A, D, v, h1, h2, h3⟩ := h
  exact ⟨A, D, v, h1, h2, by rw [hb.block _ (Array.getElem?_eq_some_iff.1 h3).1]; exact h3⟩
theorem AV.new (X w : World) (x u : Value) (h : X.heap.size ≤ w.heap.size) : AV X (w.alloc (Obj.cells #[x, u] 44)) (.pointer (some ⟨w.heap.size, 0, none⟩)) := ⟨_, rfl, h, x, u, heap_alloc_new w _⟩
end Go.Proofs.Ytodionedjokdmaa
-- with Uc
namespace Go.Proofs.Ytodionedjokdmaa
open Go.RowKit
set_option linter.unusedVariables false
set_option linter.unusedSimpArgs false

/-- A call's label, its slice written out, in memory of the call's own. -/
def LG (W : World) (M : Int) (Z : List (Nat × Int)) (e : Ending) (w' : World) : Prop := ∃ a n c, e = .returned (.agg #[.int .i64 M, .slice a n c]) ∧ w'.ownsRow W.heap.size 101 2 (.slice a n c) Z.length (F Z) ∧ Below W.heap.size W w'
theorem slice_form {w : World} {base e k : Nat} {v : Value} {xs : List Value} (h : w.ownsRow base e 2 v k xs) : ∃ a n c, v = .slice a n c := by
  rcases h.2 with ⟨h, _⟩ | ⟨g', cap', cur, h, hg, _⟩
  · exact ⟨_, _, _, h⟩
  · exact ⟨_, _, _, h⟩
theorem lg_of_gives {W w' : World} {M : Int} {Z : List (Nat × Int)} {e : Ending} (h : Gives W M Z e w') : LG W M Z e w' := by
  obtain ⟨v, h1, h2, h3⟩ := h
  obtain ⟨a, n, c, rfl⟩ := slice_form h2
  exact ⟨a, n, c, h1, h2, h3⟩
theorem lg5 {W : World} {M : Int} {Z : List (Nat × Int)} {f : Nat} {args : Array Value} (h : Calls Try.prog f args W (LG W M Z)) :
    Calls Try.prog f args W fun e w' => ∃ D a n c ps, e = .returned (.agg #[.int .i64 D, .slice a n c]) ∧ (D = M ∧ ps = Z) ∧ w'.ownsRow W.heap.size 101 2 (.slice a n c) ps.length (F ps) ∧ Below W.heap.size W w' :=
  h.mono fun e w' ⟨a, n, c, h1, h2, h3⟩ => ⟨M, a, n, c, Z, h1, ⟨rfl, rfl⟩, h2, h3⟩
section
variable {D E : Int} {v1 v2 : Value} {ps qs : List (Nat × Int)} {W : World}
theorem rest_c (r1 : RC W.heap.size W v1 ps) (hn : ps.length ≤ 1000000) : Calls Try.prog 18 #[.agg #[.int .i64 D, v1]] W (LG W (Lab.turn 0 2 D) (Lab.tn 0 2 D ps)) :=
  (prest_any D v1 ps W (by omega) r1).mono fun e w' h => lg_of_gives h
theorem with_c (c : Nat) (l : Int) (o1 : Lab.Ok D ps) (r1 : RC W.heap.size W v1 ps) (hn : ps.length ≤ 1000000) : Calls Try.prog 17 #[.agg #[.int .i64 D, v1], .int .u32 c, .int .i64 l] W (LG W D (Lab.put D ps c l)) :=
  (pwith_any v1 ps D c l W o1.1 (by omega) r1).mono fun e w' h => lg_of_gives h
end
end Go.Proofs.Ytodionedjokdmaa
-- with Ud
namespace Go.Proofs.Ytodionedjokdmaa
open Go.RowKit
set_option linter.unusedVariables false
set_option linter.unusedSimpArgs false

/-- A variable of the law's own that holds a label. -/
def Lbl (w : World) (A : Nat) (D : Int) (v : Value) (ps : List (Nat × Int)) : Prop := w.heap[A]? = some (Obj.cells #[.int .i64 D, v] 44) ∧ RC w.heap.size w v ps
theorem Lbl.below {w w' : World} {A : Nat} {D : Int} {v : Value} {ps : List (Nat × Int)} (h : Lbl w A D v ps) (hb : Below w.heap.size w w') : Lbl w' A D v ps :=
  ⟨by rw [hb.block _ (Array.getElem?_eq_some_iff.1 h.1).1]; exact h.1, (h.2.below hb).mono hb.size⟩
theorem Lbl.cells {w : World} {A : Nat} {D : Int} {v : Value} {ps : List (Nat × Int)} (h : Lbl w A D v ps) : w.cell? ⟨A, 0, none⟩ = some (.int .i64 D) ∧ w.cell? ⟨A, 1, none⟩ = some v := cells2 h.1
theorem RC.form {n₀ : Nat} {w : World} {v : Value} {ps : List (Nat × Int)} (h : RC n₀ w v ps) : ∃ a n c, v = .slice a n c := by
  rcases h with ⟨rfl, _⟩ | ⟨b, off, cap, rfl, _⟩
  · exact ⟨_, _, _, rfl⟩
  · exact ⟨_, _, _, rfl⟩
end Go.Proofs.Ytodionedjokdmaa
-- with Ug
namespace Go.Proofs.Ytodionedjokdmaa
open Go.RowKit
set_option linter.unusedVariables false
set_option linter.unusedSimpArgs false

/-- A list of categories, as it is read. -/
def OR (w : World) (a : Option Addr) (cs : List Nat) : Prop := ∀ k x, cs[k]? = some x → ∃ bc oc, a = some ⟨bc, oc, none⟩ ∧ bc < w.heap.size ∧ w.cell? ⟨bc, oc + k, none⟩ = some (.int .u32 (x : Nat))
theorem OR.below {w w' : World} {a : Option Addr} {cs : List Nat} (h : OR w a cs) (hb : Below w.heap.size w w') : OR w' a cs := fun k x hk => by
  obtain ⟨bc, oc, h1, h2, h3⟩ := h k x hk
  exact ⟨bc, oc, h1, Nat.lt_of_lt_of_le h2 hb.size, by rw [hb.cell (p := ⟨bc, _, none⟩) h2]; exact h3⟩
end Go.Proofs.Ytodionedjokdmaa
