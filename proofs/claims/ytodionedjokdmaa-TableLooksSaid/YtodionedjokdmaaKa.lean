/- Labels in memory, and what is asked of them. -/
import Derived.Test.YtodionedjokdmaaUb
import Derived.Test.YtodionedjokdmaaSj
import Derived.Lib.Hide
set_option linter.unusedVariables false
set_option linter.unusedSimpArgs false
namespace Go.Proofs.Ytodionedjokdmaa
open Go.RowKit
set_option linter.unusedVariables false
set_option linter.unusedSimpArgs false
abbrev LP := List (Nat × Int)
/-- A label that may be, of at most k pairs, its slice in a world's memory. -/
def LA (k : Nat) (W : World) (D : Int) (a : Option Addr) (n c : Nat) (P : LP) : Prop := Lab.Ok D P ∧ P.length ≤ k ∧ RC W.heap.size W (.slice a n c) P
section
variable {k k1 k2 : Nat} {W W' : World} {D E : Int} {a b : Option Addr} {n c m d : Nat} {P Q : LP}
theorem LA.below (h : LA k W D a n c P) (hb : Below W.heap.size W W') : LA k W' D a n c P := ⟨h.1, h.2.1, (h.2.2.below hb).mono hb.size⟩
theorem LA.mono (h : LA k1 W D a n c P) (hk : k1 ≤ k2) : LA k2 W D a n c P := ⟨h.1, by have := h.2.1; omega, h.2.2⟩
/-- A call's label, of at most k pairs. -/
def LM (k : Nat) (W : World) (D : Int) (P : LP) (e : Ending) (w' : World) : Prop := ∃ a n c, e = .returned (.agg #[.int .i64 D, .slice a n c]) ∧ LA k w' D a n c P ∧ Below W.heap.size W w'
theorem lm_of {f : Nat} {args : Array Value} (h : Calls Try.prog f args W (LG W D P)) (o : Lab.Ok D P) (hk : P.length ≤ k) (hk2 : k ≤ 1000000) : Calls Try.prog f args W (LM k W D P) :=
  h.mono fun e w' ⟨a, n, c, h1, h2, h3⟩ => ⟨a, n, c, h1, ⟨o, hk, rc_of_owns h2 (by omega)⟩, h3⟩
theorem lsame_m (h1 : LA k1 W D a n c P) (h2 : LA k2 W E b m d Q) : Calls Try.prog 19 #[.agg #[.int .i64 D, .slice a n c], .agg #[.int .i64 E, .slice b m d]] W fun e w' => e = .returned (.bool (decide (D = E ∧ P = Q))) ∧ Below W.heap.size W w' :=
  psame_any _ _ P Q D E W (h1.2.2.reads (Nat.le_refl _)) (h2.2.2.reads (Nat.le_refl _))
theorem rest_m (h1 : LA k1 W D a n c P) (hk1 : k1 ≤ 1000) : Calls Try.prog 18 #[.agg #[.int .i64 D, .slice a n c]] W (LM (k1 + k1) W (Lab.turn 0 2 D) (Lab.tn 0 2 D P)) :=
  lm_of (rest_c h1.2.2 (by have := h1.2.1; omega)) (Lab.tn_ok h1.1) (by have := h1.2.1; have := Lab.tn_len 0 2 D P; omega) (by omega)
theorem put_len (D : Int) (P : LP) (c : Nat) (l : Int) : (Lab.put D P c l).length ≤ P.length + 1 + P.length := by
  unfold Lab.put
  simp only [List.length_append]
  have h1 := List.length_filter_le (fun p : Nat × Int => decide (p.1 < c)) P
  have h2 := List.length_filter_le (fun p : Nat × Int => decide (c < p.1)) P
  split <;> simp <;> omega
theorem with_m (x : Nat) (l : Int) (h1 : LA k1 W D a n c P) (hx1 : 1 ≤ x) (hx2 : x < 4294967296) (hk1 : k1 ≤ 1000) : Calls Try.prog 17 #[.agg #[.int .i64 D, .slice a n c], .int .u32 x, .int .i64 l] W (LM (k1 + 1 + k1) W D (Lab.put D P x l)) :=
  lm_of (with_c x l h1.1 h1.2.2 (by have := h1.2.1; omega)) (Lab.put_ok h1.1 hx1 hx2) (by have := h1.2.1; have := put_len D P x l; omega) (by omega)
end
end Go.Proofs.Ytodionedjokdmaa
