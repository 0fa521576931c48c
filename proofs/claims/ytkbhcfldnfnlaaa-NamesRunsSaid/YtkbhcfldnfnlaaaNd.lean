/- Rows of ranges, and which names they have left. -/
import Derived.Test.YtkbhcfldnfnlaaaNb
import Derived.Test.YtkbhcfldnfnlaaaVs
import Derived.Test.YtkbhcfldnfnlaaaVt
set_option linter.unusedVariables false
set_option linter.unusedSimpArgs false
namespace Go.Proofs.Ytkbhcfldnfnlaaa
open Go.RowKit
set_option linter.unusedVariables false
set_option linter.unusedSimpArgs false
structure Rg where
  l : Int
  n : Int
  u : Int
def encR (p : Rg) : List Value := [.int .u64 p.l, .int .u64 p.n, .int .u64 p.u]
theorem encR_len (p : Rg) : (encR p).length = 3 := rfl
theorem encR_one (p : Rg) : ∀ u ∈ encR p, u.oneCell' = true := fun u hu => by
  simp only [encR, List.mem_cons, List.not_mem_nil, or_false] at hu
  rcases hu with rfl | rfl | rfl <;> rfl
def Rg.ok (p : Rg) : Prop := Ok p.l p.n p.u
/-- Is x left to be given? -/
def ind (p : Rg) (x : Int) : Int := if p.n ≤ x ∧ x < p.u then 1 else 0
/-- How many of them have x left. -/
def cnt (x : Int) : List Rg → Int
  | [] => 0
  | p :: r => ind p x + cnt x r
/-- How many names are left. -/
def sz : List Rg → Int
  | [] => 0
  | p :: r => (p.u - p.n) + sz r
theorem ind_nn (p : Rg) (x : Int) : 0 ≤ ind p x := by unfold ind; split <;> omega
theorem cnt_nn (x : Int) : ∀ rs : List Rg, 0 ≤ cnt x rs
  | [] => by simp [cnt]
  | p :: r => by have := ind_nn p x; have := cnt_nn x r; simp only [cnt]; omega
theorem cnt_append (x : Int) (a b : List Rg) : cnt x (a ++ b) = cnt x a + cnt x b := by
  induction a with
  | nil => simp [cnt]
  | cons p r ih => rw [List.cons_append]; simp only [cnt]; rw [ih]; omega
theorem sz_append (a b : List Rg) : sz (a ++ b) = sz a + sz b := by
  induction a with
  | nil => simp [sz]
  | cons p r ih => rw [List.cons_append]; simp only [sz]; rw [ih]; omega
theorem cnt_set (x : Int) {rs : List Rg} {i : Nat} {p q : Rg} (h : rs[i]? = some p) : cnt x (rs.set i q) = cnt x rs - ind p x + ind q x := by
  induction rs generalizing i with
  | nil => simp at h
  | cons y r ih =>
    match i with
    | 0 =>
      obtain rfl : y = p := by simpa using h
      rw [List.set_cons_zero]; simp only [cnt]; omega
    | i + 1 =>
      rw [List.set_cons_succ]; simp only [cnt]
      rw [ih (by simpa using h)]; omega
theorem sz_set {rs : List Rg} {i : Nat} {p q : Rg} (h : rs[i]? = some p) : sz (rs.set i q) = sz rs - (p.u - p.n) + (q.u - q.n) := by
  induction rs generalizing i with
  | nil => simp at h
  | cons y r ih =>
    match i with
    | 0 =>
      obtain rfl : y = p := by simpa using h
      rw [List.set_cons_zero]; simp only [sz]; omega
    | i + 1 =>
      rw [List.set_cons_succ]; simp only [sz]
      rw [ih (by simpa using h)]; omega
theorem cnt_at (x : Int) {rs : List Rg} {i : Nat} {p : Rg} (h : rs[i]? = some p) : ind p x ≤ cnt x rs := by
  induction rs generalizing i with
  | nil => simp at h
  | cons y r ih =>
    match i with
    | 0 =>
      obtain rfl : y = p := by simpa using h
      have := cnt_nn x r
      simp only [cnt]; omega
    | i + 1 =>
      have := ih (i := i) (by simpa using h)
      have := ind_nn y x
      simp only [cnt]; omega
theorem none_left {rs : List Rg} (h : ∀ (i : Nat) (p : Rg), rs[i]? = some p → p.n = p.u) : sz rs = 0 ∧ ∀ x, cnt x rs = 0 := by
  induction rs with
  | nil => simp [sz, cnt]
  | cons y r ih =>
    have h0 := h 0 y rfl
    obtain ⟨h1, h2⟩ := ih fun i p hi => h (i + 1) p hi
    refine ⟨by simp only [sz]; omega, fun x => ?_⟩
    have : ind y x = 0 := by unfold ind; rw [if_neg (by omega)]
    simp only [cnt]
    rw [this, h2 x]; rfl
theorem ind_take (l n u x : Int) (h : n < u) : ind ⟨l, n + 1, u⟩ x + (if x = n then 1 else 0) = ind ⟨l, n, u⟩ x := by
  unfold ind
  by_cases e : x = n
  · subst e
    simp only []
    rw [if_neg (by omega), if_pos trivial, if_pos ⟨Int.le_refl _, h⟩]; rfl
  · rw [if_neg e]
    simp only []
    by_cases h1 : n ≤ x ∧ x < u
    · rw [if_pos (by omega), if_pos h1]; rfl
    · rw [if_neg (by omega), if_neg h1]; rfl
theorem ind_split (l n u k x : Int) (h0 : 0 ≤ k) (h1 : k ≤ u - n) (l' : Int) : ind ⟨l, n, u - k⟩ x + ind ⟨l', u - k, u⟩ x = ind ⟨l, n, u⟩ x := by
  unfold ind
  simp only []
  by_cases h2 : n ≤ x ∧ x < u - k
  · rw [if_pos h2, if_neg (by omega), if_pos (by omega)]; rfl
  · by_cases h3 : u - k ≤ x ∧ x < u
    · rw [if_neg h2, if_pos h3, if_pos (by omega)]; rfl
    · rw [if_neg h2, if_neg h3, if_neg (by omega)]; rfl
variable {own own' : Nat → Prop} {w w' : World} {v : Value} {rs : List Rg} {b o c n i : Nat} {p q : Rg} {x : Int}
/-- A row of ranges. -/
def RR (own : Nat → Prop) (w : World) (v : Value) (rs : List Rg) : Prop := RV own 26 3 encR w v rs
theorem RR.keep (h : RR own w v rs) (hk : ∀ b cur, own b → w.heap[b]? = some (Obj.cells cur 26) → own' b ∧ w'.heap[b]? = w.heap[b]?) : RR own' w' v rs := RV.keep h hk
theorem RR.below (h : RR own w v rs) (hb : Below w.heap.size w w') : RR own w' v rs := h.keep fun b cur ho hc => ⟨ho, hb.block b (Array.getElem?_eq_some_iff.1 hc).1⟩
theorem RR.form (h : RR own w v rs) (h0 : 0 < rs.length) : ∃ b o c, v = .slice (some ⟨b, o, none⟩) rs.length c ∧ rs.length ≤ c ∧ c ≤ maxLen ∧ own b ∧ b < w.heap.size := by
  rcases h with ⟨rfl, _⟩ | ⟨g, o, cap, cur, rfl, h1, h2, _, h3, h4, _⟩
  · cases h0
  · exact ⟨_, _, _, rfl, h3, h4, h1, (Array.getElem?_eq_some_iff.1 h2).1⟩
/-- One of them. -/
theorem RR.pv (h : RR own w (.slice (some ⟨b, o, none⟩) n c) rs) (hi : rs[i]? = some p) : PV w b (o + i * 3) p.l p.n p.u := by
  rcases h with ⟨_, h⟩ | ⟨g, o', cap, cur, h1, h2, h3, h4, h5, h6, h7⟩
  · cases h
  · injection h1 with e1 e2 e3
    injection e1 with e1
    injection e1 with e1 e4
    subst e1 e2 e3 e4
    have h := h7 i p hi
    exact ⟨by rw [cell_of_row _ _ _ _ 26 (0, 0) h3]; exact h 0 _ rfl, by rw [cell_of_row _ _ _ _ 26 (0, 0) h3]; exact h 1 _ rfl, by rw [cell_of_row _ _ _ _ 26 (0, 0) h3]; exact h 2 _ rfl, frozen_of_row _ _ _ _ _ h3, frozen_of_row _ _ _ _ _ h3, frozen_of_row _ _ _ _ _ h3⟩
theorem RR.put {j : Nat} (h : RR own w (.slice (some ⟨b, o, none⟩) n c) rs) (hi : rs[i]? = some p) (hj : j < 3) (hq : encR q = (encR p).set j (.int .u64 x)) (hb : Below w.heap.size (w.setCell ⟨b, o + i * 3 + j, none⟩ (.int .u64 x)) w') :
    RR own w' (.slice (some ⟨b, o, none⟩) n c) (rs.set i q) :=
  RR.below (RV.set h encR_len hi hj hq) (below_sz hb)
theorem RR.one (w : World) (p : Rg) (ho : own w.heap.size) : RR own (w.alloc (Obj.cells #[.int .u64 p.l, .int .u64 p.n, .int .u64 p.u] 26)) (.slice (some ⟨w.heap.size, 0, none⟩) 1 1) [p] := by
  refine .inr ⟨w.heap.size, 0, 1, _, rfl, ho, heap_alloc_new w _, by simp, Nat.le_refl _, by unfold maxLen; omega, fun i x hi j u hu => ?_⟩
  match i with
  | 0 =>
    obtain rfl : p = x := by simpa using hi
    match j with
    | 0 => simpa [encR] using hu
    | 1 => simpa [encR] using hu
    | 2 => simpa [encR] using hu
    | j + 3 => simp [encR] at hu
  | i + 1 => simp at hi
theorem infoR : (Try.prog.info? 26).map (fun i => (i.zero, i.size, i.bytes)) = some (some (.agg #[.int .u64 0, .int .u64 0, .int .u64 0]), 3, 24) := by kernel_rfl
/-- One more. -/
theorem append_r (ty : TypeId) (h : RR own w v rs) (hl : rs.length + 1 ≤ 100000) :
    ∃ v' w', (Builtin.append_ #[29, 29] ty #[v, .slice (some ⟨w.heap.size, 0, none⟩) 1 1]).run Try.prog (w.alloc (Obj.cells #[.int .u64 p.l, .int .u64 p.n, .int .u64 p.u] 26)) = .ok v' w' ∧ RR (fun b => own b ∨ w.heap.size ≤ b) w' v' (rs ++ [p]) ∧ ∃ S, Turn S w w' ∧ ∀ b ∈ S, own b ∧ ∃ cur, w.heap[b]? = some (Obj.cells cur 26) := by
  obtain ⟨i, hi, hie⟩ := Option.map_eq_some_iff.1 infoR
  injection hie with hz h2
  injection h2 with hsz hby
  have b1 := below_alloc1 w (Obj.cells #[.int .u64 p.l, .int .u64 p.n, .int .u64 p.u] 26)
  have hlv : LV 3 encR (w.alloc (Obj.cells #[.int .u64 p.l, .int .u64 p.n, .int .u64 p.u] 26)) (some ⟨w.heap.size, 0, none⟩) [p] := by
    obtain ⟨A, c, e, _, _, h⟩ := RV.form (RR.one (own := fun _ => True) w p trivial)
    injection e with e
    rw [e]; exact h
  obtain ⟨v', w', hrun, hr, S, hT, hS⟩ := append_rv (P := Try.prog) (ys := [p]) 29 ty i _ 24 Try.underlying29 hi hz hsz hby (by omega) rfl encR_len encR_one (by omega) (h.below b1) (by simpa using hl) (some ⟨w.heap.size, 0, none⟩) 1 (by simp) hlv
  refine ⟨v', w', hrun, hr.keep fun b cur hb _ => ⟨?_, rfl⟩, S.filter (· < w.heap.size), ?_, fun b hb => ?_⟩
  · rcases hb with h | h
    · exact .inl h
    · exact .inr (by simp at h; omega)
  · refine ⟨hT.os.trans b1.os, hT.tape.trans b1.tape, hT.output.trans b1.output, Nat.le_trans b1.size hT.size, fun k hk hn => ?_⟩
    rw [hT.block k (Nat.lt_of_lt_of_le hk b1.size) (fun hm => hn (List.mem_filter.2 ⟨hm, by simpa using hk⟩)), b1.block k hk]
  · have hm := List.mem_filter.1 hb
    have hlt : b < w.heap.size := by simpa using hm.2
    obtain ⟨h1, cur, h2⟩ := hS b hm.1
    exact ⟨h1, cur, by rw [← h2]; exact (b1.block b hlt).symm⟩
end Go.Proofs.Ytkbhcfldnfnlaaa
