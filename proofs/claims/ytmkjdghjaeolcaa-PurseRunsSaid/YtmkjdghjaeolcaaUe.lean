/- Rows of purses, and what they are together. -/
import Derived.Test.YtmkjdghjaeolcaaUb
import Derived.Test.YtmkjdghjaeolcaaUc
import Derived.Test.YtmkjdghjaeolcaaVs
import Derived.Test.YtmkjdghjaeolcaaVt
set_option linter.unusedVariables false
set_option linter.unusedSimpArgs false
namespace Go.Proofs.Ytmkjdghjaeolcaa
open Go.RowKit
set_option linter.unusedVariables false
set_option linter.unusedSimpArgs false
structure Pu where
  l : Int
  u : Int
  g : Int
def encP (p : Pu) : List Value := [.int .i64 p.l, .int .i64 p.u, .int .i64 p.g]
theorem encP_len (p : Pu) : (encP p).length = 3 := rfl
theorem encP_one (p : Pu) : ∀ u ∈ encP p, u.oneCell' = true := fun u hu => by
  simp only [encP, List.mem_cons, List.not_mem_nil, or_false] at hu
  rcases hu with rfl | rfl | rfl <;> rfl
def Pu.ok (p : Pu) : Prop := Ok p.l p.u p.g
/-- Together: what is used and what is left. -/
def ts : List Pu → Int
  | [] => 0
  | p :: r => (p.l - p.g) + ts r
theorem ts_append (a b : List Pu) : ts (a ++ b) = ts a + ts b := by
  induction a with
  | nil => simp [ts]
  | cons x r ih => rw [List.cons_append]; simp only [ts]; rw [ih]; omega
theorem ts_set {ps : List Pu} {i : Nat} {p q : Pu} (h : ps[i]? = some p) : ts (ps.set i q) = ts ps - (p.l - p.g) + (q.l - q.g) := by
  induction ps generalizing i with
  | nil => simp at h
  | cons x r ih =>
    match i with
    | 0 =>
      obtain rfl : x = p := by simpa using h
      rw [List.set_cons_zero]; simp only [ts]; omega
    | i + 1 =>
      rw [List.set_cons_succ]; simp only [ts]
      rw [ih (by simpa using h)]; omega
theorem ts_take {ps : List Pu} {k : Nat} {p : Pu} (h : ps[k]? = some p) : ts (ps.take (k + 1)) = ts (ps.take k) + (p.l - p.g) := by
  rw [List.take_add_one, h, ts_append]
  simp [ts]
theorem ts_le {ps : List Pu} {B : Int} (h : ∀ p ∈ ps, 0 ≤ p.l - p.g ∧ p.l - p.g ≤ B) (k : Nat) : 0 ≤ ts (ps.take k) ∧ (k ≤ ps.length → ts (ps.take k) ≤ k * B) := by
  induction k with
  | zero => simp [ts]
  | succ k ih =>
    cases hk : ps[k]? with
    | none =>
      have hl := List.getElem?_eq_none_iff.1 hk
      rw [List.take_add_one, hk]
      simp only [Option.toList_none, List.append_nil]
      exact ⟨ih.1, fun h => by omega⟩
    | some p =>
      have hm := h p (List.mem_of_getElem? hk)
      rw [ts_take hk]
      refine ⟨by omega, fun hl => ?_⟩
      have := ih.2 (by omega)
      have e : ((k + 1 : Nat) : Int) * B = (k : Int) * B + B := by rw [Int.natCast_add, Int.add_mul]; simp
      omega
variable {own own' : Nat → Prop} {w w' : World} {v : Value} {ps : List Pu} {b o c n i : Nat} {p q : Pu} {x : Int}
/-- A row of purses. -/
def PR (own : Nat → Prop) (w : World) (v : Value) (ps : List Pu) : Prop := RV own 26 3 encP w v ps
theorem PR.keep (h : PR own w v ps) (hk : ∀ b cur, own b → w.heap[b]? = some (Obj.cells cur 26) → own' b ∧ w'.heap[b]? = w.heap[b]?) : PR own' w' v ps := RV.keep h hk
theorem PR.below (h : PR own w v ps) (hb : Below w.heap.size w w') : PR own w' v ps := h.keep fun b cur ho hc => ⟨ho, hb.block b (Array.getElem?_eq_some_iff.1 hc).1⟩
theorem PR.form (h : PR own w v ps) (h0 : 0 < ps.length) : ∃ b o c, v = .slice (some ⟨b, o, none⟩) ps.length c ∧ ps.length ≤ c ∧ c ≤ maxLen ∧ own b ∧ b < w.heap.size := by
  rcases h with ⟨rfl, _⟩ | ⟨g, o, cap, cur, rfl, h1, h2, _, h3, h4, _⟩
  · cases h0
  · exact ⟨_, _, _, rfl, h3, h4, h1, (Array.getElem?_eq_some_iff.1 h2).1⟩
/-- One of them. -/
theorem PR.pv (h : PR own w (.slice (some ⟨b, o, none⟩) n c) ps) (hi : ps[i]? = some p) : PV w b (o + i * 3) p.l p.u p.g := by
  rcases h with ⟨_, h⟩ | ⟨g, o', cap, cur, h1, h2, h3, h4, h5, h6, h7⟩
  · cases h
  · injection h1 with e1 e2 e3
    injection e1 with e1
    injection e1 with e1 e4
    subst e1 e2 e3 e4
    have h := h7 i p hi
    exact ⟨by rw [cell_of_row _ _ _ _ 26 (0, 0) h3]; exact h 0 _ rfl, by rw [cell_of_row _ _ _ _ 26 (0, 0) h3]; exact h 1 _ rfl, by rw [cell_of_row _ _ _ _ 26 (0, 0) h3]; exact h 2 _ rfl, frozen_of_row _ _ _ _ _ h3, frozen_of_row _ _ _ _ _ h3, frozen_of_row _ _ _ _ _ h3⟩
theorem PR.put {j : Nat} (h : PR own w (.slice (some ⟨b, o, none⟩) n c) ps) (hi : ps[i]? = some p) (hj : j < 3) (hq : encP q = (encP p).set j (.int .i64 x)) (hb : Below w.heap.size (w.setCell ⟨b, o + i * 3 + j, none⟩ (.int .i64 x)) w') :
    PR own w' (.slice (some ⟨b, o, none⟩) n c) (ps.set i q) :=
  PR.below (RV.set h encP_len hi hj hq) (below_sz hb)
theorem PR.one (w : World) (p : Pu) (ho : own w.heap.size) : PR own (w.alloc (Obj.cells #[.int .i64 p.l, .int .i64 p.u, .int .i64 p.g] 26)) (.slice (some ⟨w.heap.size, 0, none⟩) 1 1) [p] := by
  refine .inr ⟨w.heap.size, 0, 1, _, rfl, ho, heap_alloc_new w _, by simp, Nat.le_refl _, by unfold maxLen; omega, fun i x hi j u hu => ?_⟩
  match i with
  | 0 =>
    obtain rfl : p = x := by simpa using hi
    match j with
    | 0 => simpa [encP] using hu
    | 1 => simpa [encP] using hu
    | 2 => simpa [encP] using hu
    | j + 3 => simp [encP] at hu
  | i + 1 => simp at hi
theorem infoP : (Try.prog.info? 26).map (fun i => (i.zero, i.size, i.bytes)) = some (some (.agg #[.int .i64 0, .int .i64 0, .int .i64 0]), 3, 24) := by kernel_rfl
/-- One more. -/
theorem append_p (ty : TypeId) (h : PR own w v ps) (hl : ps.length + 1 ≤ 100000) :
    ∃ v' w', (Builtin.append_ #[27, 27] ty #[v, .slice (some ⟨w.heap.size, 0, none⟩) 1 1]).run Try.prog (w.alloc (Obj.cells #[.int .i64 p.l, .int .i64 p.u, .int .i64 p.g] 26)) = .ok v' w' ∧ PR (fun b => own b ∨ w.heap.size ≤ b) w' v' (ps ++ [p]) ∧ ∃ S, Turn S w w' ∧ ∀ b ∈ S, own b ∧ ∃ cur, w.heap[b]? = some (Obj.cells cur 26) := by
  obtain ⟨i, hi, hie⟩ := Option.map_eq_some_iff.1 infoP
  injection hie with hz h2
  injection h2 with hsz hby
  have b1 := below_alloc1 w (Obj.cells #[.int .i64 p.l, .int .i64 p.u, .int .i64 p.g] 26)
  have hlv : LV 3 encP (w.alloc (Obj.cells #[.int .i64 p.l, .int .i64 p.u, .int .i64 p.g] 26)) (some ⟨w.heap.size, 0, none⟩) [p] := by
    obtain ⟨A, c, e, _, _, h⟩ := RV.form (PR.one (own := fun _ => True) w p trivial)
    injection e with e
    rw [e]; exact h
  obtain ⟨v', w', hrun, hr, S, hT, hS⟩ := append_rv (P := Try.prog) (ys := [p]) 27 ty i _ 24 Try.underlying27 hi hz hsz hby (by omega) rfl encP_len encP_one (by omega) (h.below b1) (by simpa using hl) (some ⟨w.heap.size, 0, none⟩) 1 (by simp) hlv
  refine ⟨v', w', hrun, hr.keep fun b cur hb _ => ⟨?_, rfl⟩, S.filter (· < w.heap.size), ?_, fun b hb => ?_⟩
  · rcases hb with h | h
    · exact .inl h
    · exact .inr (by simp at h; omega)
  · refine ⟨hT.os.trans b1.os, hT.tape.trans b1.tape, hT.output.trans b1.output, Nat.le_trans b1.size hT.size, fun k hk hn => ?_⟩
    rw [hT.block k (Nat.lt_of_lt_of_le hk b1.size) (fun hm => hn (List.mem_filter.2 ⟨hm, by simpa using hk⟩)), b1.block k hk]
  · have hm := List.mem_filter.1 hb
    have hlt : b < w.heap.size := by simpa using hm.2
    obtain ⟨h1, cur, h2⟩ := hS b hm.1
    exact ⟨h1, cur, by rw [← h2]; exact (b1.block b hlt).symm⟩
end Go.Proofs.Ytmkjdghjaeolcaa
