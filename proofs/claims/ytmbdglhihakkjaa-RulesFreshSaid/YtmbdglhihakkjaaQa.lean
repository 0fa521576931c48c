/- Labels in memory, and what is asked of them. -/
import Derived.Test.YtmbdglhihakkjaaUa
import Derived.Test.YtmbdglhihakkjaaSj
import Derived.Test.YtmbdglhihakkjaaRo
import Derived.Lib.Hide
set_option linter.unusedVariables false
set_option linter.unusedSimpArgs false
namespace Go.Proofs.Ytmbdglhihakkjaa
open Go.RowKit
set_option linter.unusedVariables false
set_option linter.unusedSimpArgs false
abbrev LP := List (Nat × Int)
/-- Each level is at most the other's. -/
def Le (D : Int) (P : LP) (E : Int) (Q : LP) : Prop := ∀ c, Lab.at' D P c ≤ Lab.at' E Q c
def lq (D : Int) (P : LP) (E : Int) (Q : LP) : Bool := decide (D ≤ E) && (P ++ Q).all fun p => decide (Lab.at' D P p.1 ≤ Lab.at' E Q p.1)
theorem above_all : ∀ l : LP, ∃ c : Nat, ∀ p ∈ l, p.1 < c
  | [] => ⟨0, fun p h => by cases h⟩
  | q :: r => by
    obtain ⟨c, hc⟩ := above_all r
    refine ⟨max c (q.1 + 1), fun p hp => ?_⟩
    rcases List.mem_cons.1 hp with rfl | hp
    · omega
    · have := hc p hp; omega
theorem lq_iff {D E : Int} {P Q : LP} : lq D P E Q = true ↔ Le D P E Q := by
  unfold lq Le
  rw [Bool.and_eq_true, List.all_eq_true, decide_eq_true_iff]
  simp only [decide_eq_true_iff]
  constructor
  · rintro ⟨h1, h2⟩ c
    by_cases h : ∃ p ∈ P ++ Q, p.1 = c
    · obtain ⟨p, hp, rfl⟩ := h
      exact h2 p hp
    · have hP : Lab.at' D P c = D := Lab.at_out fun p hp e => h ⟨p, List.mem_append.2 (.inl hp), e⟩
      have hQ : Lab.at' E Q c = E := Lab.at_out fun p hp e => h ⟨p, List.mem_append.2 (.inr hp), e⟩
      rw [hP, hQ]; exact h1
  · intro h
    refine ⟨?_, fun p _ => h p.1⟩
    obtain ⟨c, hc⟩ := above_all (P ++ Q)
    have := h c
    rwa [Lab.at_out fun p hp e => by have := hc p (List.mem_append.2 (.inl hp)); omega, Lab.at_out fun p hp e => by have := hc p (List.mem_append.2 (.inr hp)); omega] at this
abbrev upD (D : Int) : Int := Lab.turn 0 5 D
abbrev upP (D : Int) (P : LP) : LP := Lab.tn 0 5 D P
def rd (D : Int) (P : LP) (E : Int) (Q : LP) : Bool := lq E Q (Lab.turn 0 5 D) (Lab.tn 0 5 D P)
def ch (D : Int) (P : LP) (E : Int) (Q : LP) : Bool := lq D P E Q && rd D P E Q
def pl (P : LP) : Bool := decide ((Lab.owns P).length = 0)
def sf (D : Int) (P : LP) (E : Int) (Q : LP) (F : Int) (R : LP) : Bool := lq D P F R && lq F R E Q
def cr (D : Int) (P : LP) (E : Int) (Q : LP) (H : Int) (J : LP) (F : Int) (R : LP) : Bool := ch D P H J && pl R && sf D P E Q F R && lq H J F R
def gv (D : Int) (P : LP) (E : Int) (Q : LP) (H : Int) (J : LP) (F : Int) (R : LP) (G : Int) (S : LP) : Bool := ch D P H J && (lq D P F R && lq F R G S && lq G S E Q) && lq H J (Lab.turn 0 2 F) (Lab.tn 0 2 F R)
def cl (D : Int) (P : LP) (E : Int) (Q : LP) (F : Int) (R : LP) : Bool := Lab.right F R && (lq D P F R && lq F R (max E (Lab.turn 0 5 D)) (Lab.jn E Q (Lab.turn 0 5 D) (Lab.tn 0 5 D P)))
def lsD (D E : Int) : Int := Lab.turn 5 0 (max (Lab.turn 0 5 D) (Lab.turn 0 5 E))
def lsP (D : Int) (P : LP) (E : Int) (Q : LP) : LP := Lab.tn 5 0 (max (Lab.turn 0 5 D) (Lab.turn 0 5 E)) (Lab.jn (Lab.turn 0 5 D) (Lab.tn 0 5 D P) (Lab.turn 0 5 E) (Lab.tn 0 5 E Q))
/-- Enter: t (D P, E Q), its home (H J), the gate (A B, C N), what is wanted (F R, G S). -/
def en (D : Int) (P : LP) (E : Int) (Q : LP) (H : Int) (J : LP) (A : Int) (B : LP) (C : Int) (N : LP) (F : Int) (R : LP) (G : Int) (S : LP) : Bool :=
  lq D P C N && (lq (lsD D A) (lsP D P A B) F R && lq F R G S && lq G S (max E C) (Lab.jn E Q C N)) && lq H J (Lab.turn 0 2 F) (Lab.tn 0 2 F R)
def tr (D : Int) (P : LP) (Q : LP) : Bool := (Lab.owns Q).all fun c => decide (Lab.at' D P c = 0 ∨ Lab.at' D P c = 4)
theorem tr_iff {D : Int} {P Q : LP} : tr D P Q = true ↔ ∀ c ∈ Lab.owns Q, Lab.at' D P c = 0 ∨ Lab.at' D P c = 4 := by
  unfold tr
  rw [List.all_eq_true]
  simp only [decide_eq_true_iff]
def fr (D : Int) (P : LP) (E : Int) (Q : LP) (c : Nat) : Bool := Lab.right D (Lab.put D P c 0) && Lab.right E (Lab.put E Q c 4)
/-- A label that may be, of at most k pairs, its slice in a world's memory. -/
def LA (k : Nat) (W : World) (D : Int) (a : Option Addr) (n c : Nat) (P : LP) : Prop := Lab.Ok D P ∧ P.length ≤ k ∧ RC W.heap.size W (.slice a n c) P
section
variable {k k1 k2 : Nat} {W W' : World} {D E : Int} {a b : Option Addr} {n c m d : Nat} {P Q : LP}
theorem LA.below (h : LA k W D a n c P) (hb : Below W.heap.size W W') : LA k W' D a n c P := ⟨h.1, h.2.1, (h.2.2.below hb).mono hb.size⟩
theorem LA.mono (h : LA k1 W D a n c P) (hk : k1 ≤ k2) : LA k2 W D a n c P := ⟨h.1, by have := h.2.1; omega, h.2.2⟩
/-- A call's Bool. -/
def BB (W : World) (r : Bool) (e : Ending) (w' : World) : Prop := e = .returned (.bool r) ∧ Below W.heap.size W w'
/-- A label that may be, of at most k pairs, its slice in memory laid since B. -/
def LO (k B : Nat) (w : World) (D : Int) (a : Option Addr) (n c : Nat) (P : LP) : Prop := Lab.Ok D P ∧ (P.length ≤ k ∧ k ≤ 1000000) ∧ w.ownsRow B 61 2 (.slice a n c) P.length (F P)
theorem LO.la {B : Nat} (h : LO k B W D a n c P) : LA k W D a n c P := ⟨h.1, h.2.1.1, rc_of_owns h.2.2 (by have := h.2.1; omega)⟩
theorem LO.below {B : Nat} (h : LO k B W D a n c P) (hb : Below W.heap.size W W') : LO k B W' D a n c P := ⟨h.1, h.2.1, owns_below h.2.2 hb⟩
theorem LO.set {B A i : Nat} {cs : Array Value} {T : TypeId} (z : Value) (h : LO k B W D a n c P) (hA : W.heap[A]? = some (Obj.cells cs T)) (hT : T ≠ 61) : LO k B (W.setCell ⟨A, i, none⟩ z) D a n c P :=
  ⟨h.1, h.2.1, owns_set h.2.2 _ _ (fun e => by
    rcases h.2.2.2 with ⟨hv, _⟩ | ⟨g, cap, cur, hv, _, hg, _⟩
    · rw [hv] at e; simp [Value.ownBlock] at e
    · rw [hv] at e
      obtain rfl : A = g := by simpa [Value.ownBlock] using e
      rw [hA] at hg
      simp at hg
      exact hT hg.2)⟩
/-- A call's label. -/
def LM (k : Nat) (W : World) (D : Int) (P : LP) (e : Ending) (w' : World) : Prop := ∃ a n c, e = .returned (.agg #[.int .i64 D, .slice a n c]) ∧ LO k W.heap.size w' D a n c P ∧ Below W.heap.size W w'
theorem lm_of {f : Nat} {args : Array Value} (h : Calls Try.prog f args W (LG W D P)) (o : Lab.Ok D P) (hk : P.length ≤ k) (hk2 : k ≤ 1000000) : Calls Try.prog f args W (LM k W D P) :=
  h.mono fun e w' ⟨a, n, c, h1, h2, h3⟩ => ⟨a, n, c, h1, ⟨o, ⟨hk, hk2⟩, h2⟩, h3⟩
theorem leq_m (h1 : LA k1 W D a n c P) (h2 : LA k2 W E b m d Q) (hk1 : k1 ≤ 1000) (hk2 : k2 ≤ 1000) : Calls Try.prog 43 #[.agg #[.int .i64 D, .slice a n c], .agg #[.int .i64 E, .slice b m d]] W (BB W (lq D P E Q)) :=
  (pleq_any D E _ _ P Q W h1.1 h2.1 h1.2.2 h2.2.2 _ lq_iff).mono fun e w' h => h
theorem rleq_m (h1 : LA k1 W D a n c P) (h2 : LA k2 W E b m d Q) (hk1 : k1 ≤ 1000) (hk2 : k2 ≤ 1000) : Calls Try.prog 48 #[.agg #[.int .i64 D, .slice a n c], .agg #[.int .i64 E, .slice b m d]] W (BB W (lq D P E Q)) :=
  (rleq_c (lq D P E Q) h1.1 h2.1 h1.2.2 h2.2.2 (by have := h1.2.1; have := h2.2.1; omega) lq_iff).mono fun e w' h => h
theorem right_m (h1 : LA k1 W D a n c P) : Calls Try.prog 52 #[.agg #[.int .i64 D, .slice a n c]] W (BB W (Lab.right D P)) :=
  pright_any _ P D W (h1.2.2.reads (Nat.le_refl _))
theorem rright_m (h1 : LA k1 W D a n c P) : Calls Try.prog 54 #[.agg #[.int .i64 D, .slice a n c]] W (BB W (Lab.right D P)) :=
  right_any _ P D W (h1.2.2.reads (Nat.le_refl _))
theorem ysame_m (h1 : LA k1 W D a n c P) (h2 : LA k2 W E b m d Q) : Calls Try.prog 35 #[.agg #[.int .i64 D, .slice a n c], .agg #[.int .i64 E, .slice b m d]] W (BB W (decide (D = E ∧ P = Q))) :=
  same_any _ _ P Q D E W (h1.2.2.reads (Nat.le_refl _)) (h2.2.2.reads (Nat.le_refl _))
theorem lsame_m (h1 : LA k1 W D a n c P) (h2 : LA k2 W E b m d Q) : Calls Try.prog 45 #[.agg #[.int .i64 D, .slice a n c], .agg #[.int .i64 E, .slice b m d]] W (BB W (decide (D = E ∧ P = Q))) :=
  psame_any _ _ P Q D E W (h1.2.2.reads (Nat.le_refl _)) (h2.2.2.reads (Nat.le_refl _))
theorem raise_m (h1 : LA k1 W D a n c P) (hk1 : k1 ≤ 1000) : Calls Try.prog 47 #[.agg #[.int .i64 D, .slice a n c]] W (LM (k1 + k1) W (Lab.turn 0 5 D) (Lab.tn 0 5 D P)) :=
  lm_of (raise_c h1.2.2 (by have := h1.2.1; omega)) (Lab.tn_ok h1.1) (by have := h1.2.1; have := Lab.tn_len 0 5 D P; omega) (by omega)
theorem rest_m (h1 : LA k1 W D a n c P) (hk1 : k1 ≤ 1000) : Calls Try.prog 39 #[.agg #[.int .i64 D, .slice a n c]] W (LM (k1 + k1) W (Lab.turn 0 2 D) (Lab.tn 0 2 D P)) :=
  lm_of (rest_c h1.2.2 (by have := h1.2.1; omega)) (Lab.tn_ok h1.1) (by have := h1.2.1; have := Lab.tn_len 0 2 D P; omega) (by omega)
theorem lower_m (h1 : LA k1 W D a n c P) (hk1 : k1 ≤ 1000) : Calls Try.prog 58 #[.agg #[.int .i64 D, .slice a n c]] W (LM (k1 + k1) W (Lab.turn 5 0 D) (Lab.tn 5 0 D P)) :=
  lm_of (lower_c h1.2.2 (by have := h1.2.1; omega)) (Lab.tn_ok h1.1) (by have := h1.2.1; have := Lab.tn_len 5 0 D P; omega) (by omega)
theorem rraise_m (h1 : LA k1 W D a n c P) (hk1 : k1 ≤ 1000) : Calls Try.prog 49 #[.agg #[.int .i64 D, .slice a n c]] W (LM (k1 + k1) W (Lab.turn 0 5 D) (Lab.tn 0 5 D P)) :=
  lm_of (rraise_c h1.1 h1.2.2 (by have := h1.2.1; omega)) (Lab.tn_ok h1.1) (by have := h1.2.1; have := Lab.tn_len 0 5 D P; omega) (by omega)
theorem rrest_m (h1 : LA k1 W D a n c P) (hk1 : k1 ≤ 1000) : Calls Try.prog 57 #[.agg #[.int .i64 D, .slice a n c]] W (LM (k1 + k1) W (Lab.turn 0 2 D) (Lab.tn 0 2 D P)) :=
  lm_of (rrest_c h1.1 h1.2.2 (by have := h1.2.1; omega)) (Lab.tn_ok h1.1) (by have := h1.2.1; have := Lab.tn_len 0 2 D P; omega) (by omega)
theorem rlower_m (h1 : LA k1 W D a n c P) (hk1 : k1 ≤ 1000) : Calls Try.prog 59 #[.agg #[.int .i64 D, .slice a n c]] W (LM (k1 + k1) W (Lab.turn 5 0 D) (Lab.tn 5 0 D P)) :=
  lm_of (rlower_c h1.1 h1.2.2 (by have := h1.2.1; omega)) (Lab.tn_ok h1.1) (by have := h1.2.1; have := Lab.tn_len 5 0 D P; omega) (by omega)
theorem join_m (h1 : LA k1 W D a n c P) (h2 : LA k2 W E b m d Q) (hk1 : k1 ≤ 1000) (hk2 : k2 ≤ 1000) : Calls Try.prog 46 #[.agg #[.int .i64 D, .slice a n c], .agg #[.int .i64 E, .slice b m d]] W (LM (k1 + k2) W (max D E) (Lab.jn D P E Q)) :=
  lm_of (join_c h1.1 h2.1 h1.2.2 h2.2.2 (by have := h1.2.1; have := h2.2.1; omega)) (Lab.jn_ok h1.1 h2.1) (by have := h1.2.1; have := h2.2.1; have := Lab.jn_len D P E Q; omega) (by omega)
theorem rmerge_m (h1 : LA k1 W D a n c P) (h2 : LA k2 W E b m d Q) (hk1 : k1 ≤ 1000) (hk2 : k2 ≤ 1000) : Calls Try.prog 53 #[.agg #[.int .i64 D, .slice a n c], .agg #[.int .i64 E, .slice b m d], .int .u8 106] W (LM (k1 + k2) W (max D E) (Lab.jn D P E Q)) :=
  lm_of (rmerge_j h1.1 h2.1 h1.2.2 h2.2.2 (by have := h1.2.1; have := h2.2.1; omega)) (Lab.jn_ok h1.1 h2.1) (by have := h1.2.1; have := h2.2.1; have := Lab.jn_len D P E Q; omega) (by omega)
theorem put_len (D : Int) (P : LP) (c : Nat) (l : Int) : (Lab.put D P c l).length ≤ P.length + 1 + P.length := by
  unfold Lab.put
  simp only [List.length_append]
  have h1 := List.length_filter_le (fun p : Nat × Int => decide (p.1 < c)) P
  have h2 := List.length_filter_le (fun p : Nat × Int => decide (c < p.1)) P
  split <;> simp <;> omega
theorem with_m (x : Nat) (l : Int) (h1 : LA k1 W D a n c P) (hx1 : 1 ≤ x) (hx2 : x < 4294967296) (hk1 : k1 ≤ 1000) : Calls Try.prog 44 #[.agg #[.int .i64 D, .slice a n c], .int .u32 x, .int .i64 l] W (LM (k1 + 1 + k1) W D (Lab.put D P x l)) :=
  lm_of (with_c x l h1.1 h1.2.2 (by have := h1.2.1; omega)) (Lab.put_ok h1.1 hx1 hx2) (by have := h1.2.1; have := put_len D P x l; omega) (by omega)
theorem rwith_m (x : Nat) (l : Int) (h1 : LA k1 W D a n c P) (hx1 : 1 ≤ x) (hx2 : x < 4294967296) (hk1 : k1 ≤ 1000) : Calls Try.prog 56 #[.agg #[.int .i64 D, .slice a n c], .int .u32 x, .int .i64 l] W (LM (k1 + 1 + k1) W D (Lab.put D P x l)) :=
  lm_of (rwith_c x l h1.1 h1.2.2 (by have := h1.2.1; omega) hx1 hx2) (Lab.put_ok h1.1 hx1 hx2) (by have := h1.2.1; have := put_len D P x l; omega) (by omega)
theorem owns_m (h1 : LA k1 W D a n c P) (hk1 : k1 ≤ 1000) : Calls Try.prog 40 #[.agg #[.int .i64 D, .slice a n c]] W (OG W (Lab.owns P)) := owns_c h1.2.2 (by have := h1.2.1; omega)
theorem rowns_m (h1 : LA k1 W D a n c P) (hk1 : k1 ≤ 1000) : Calls Try.prog 50 #[.agg #[.int .i64 D, .slice a n c]] W (OG W (Lab.owns P)) := rowns_c h1.2.2 (by have := h1.2.1; omega)
theorem at_m (x : Nat) (h1 : LA k1 W D a n c P) : Calls Try.prog 41 #[.agg #[.int .i64 D, .slice a n c], .int .u32 x] W fun e w' => e = .returned (.int .i64 (Lab.at' D P x)) ∧ Below W.heap.size W w' := at_c h1.1 h1.2.2 rfl
theorem rat_m (x : Nat) (h1 : LA k1 W D a n c P) : Calls Try.prog 55 #[.agg #[.int .i64 D, .slice a n c], .int .u32 x] W fun e w' => e = .returned (.int .i64 (Lab.at' D P x)) ∧ Below W.heap.size W w' := rat_c h1.2.2 rfl
end
end Go.Proofs.Ytmbdglhihakkjaa
