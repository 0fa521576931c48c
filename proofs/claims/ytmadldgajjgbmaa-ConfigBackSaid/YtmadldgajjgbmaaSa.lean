import Derived.Test.YtmadldgajjgbmaaRa
import Derived.Test.YtmadldgajjgbmaaNa
import Derived.RangeFuncNested
import Derived.RangeFuncBound
import Derived.RangeFuncCalls
import Derived.RangeFuncLeaves
import Derived.Shelf.Abstract
import Derived.Shelf.RegionOpen
import Derived.OwnWalkIn
import Derived.TacticsInMore
import Derived.LoopNIn
import Derived.LoopIn
namespace Go.Proofs.Ytmadldgajjgbmaa
open Go.RowKit
set_option linter.unusedVariables false
set_option linter.unusedSimpArgs false

theorem first_q (a1 : Option Addr) (c1 b o n cap : Nat) (q : Nat) (w : World) (h : w.cell? ⟨b, o, none⟩ = some (.int .u32 q)) :
    Calls Try.prog 74 #[.slice a1 0 c1, .slice (some ⟨b, o, none⟩) (n + 1) cap] w fun e w' => e = .returned (.int .u32 q) ∧ ∃ m, w' = w.drewN m := by
  go_enter Try.func74, Try.ntmps74
  go_wp2
  go_ret
  exact ⟨rfl, 0, rfl⟩
theorem first_p (a1 : Option Addr) (c1 b o n cap : Nat) (p : Nat) (w : World) (h : w.cell? ⟨b, o, none⟩ = some (.int .u32 p)) :
    Calls Try.prog 74 #[.slice (some ⟨b, o, none⟩) (n + 1) cap, .slice a1 0 c1] w fun e w' => e = .returned (.int .u32 p) ∧ ∃ m, w' = w.drewN m := by
  have h0 : (((n + 1 : Nat) : Int) == 0) = false := by rw [beq_eq_false_iff_ne]; omega
  go_enter Try.func74, Try.ntmps74
  go_wp2
  go_ret
  exact ⟨rfl, 0, rfl⟩
theorem first_pq (b1 o1 n1 c1 b2 o2 n2 c2 : Nat) (p q m : Nat) (hm : min p q = m) (w : World) (h1 : w.cell? ⟨b1, o1, none⟩ = some (.int .u32 p)) (h2 : w.cell? ⟨b2, o2, none⟩ = some (.int .u32 q)) :
    Calls Try.prog 74 #[.slice (some ⟨b1, o1, none⟩) (n1 + 1) c1, .slice (some ⟨b2, o2, none⟩) (n2 + 1) c2] w fun e w' => e = .returned (.int .u32 m) ∧ ∃ m, w' = w.drewN m := by
  have k1 : (((n1 + 1 : Nat) : Int) == 0) = false := by rw [beq_eq_false_iff_ne]; omega
  have k2 : (((n2 + 1 : Nat) : Int) == 0) = false := by rw [beq_eq_false_iff_ne]; omega
  go_enter Try.func74, Try.ntmps74
  go_wp2
  go_quiet (fail)
  go_wp2_with fail
  · go_ret
    exact ⟨by rw [← hm, show min p q = q from by omega]; rfl, _, rfl⟩
  · go_ret
    exact ⟨by rw [← hm, show min p q = p from by omega]; rfl, _, rfl⟩
end Go.Proofs.Ytmadldgajjgbmaa
-- with Sb
namespace Lab
end Lab
namespace Go.Proofs.Ytmadldgajjgbmaa
open Go.RowKit
set_option linter.unusedVariables false
set_option linter.unusedSimpArgs false

end Go.Proofs.Ytmadldgajjgbmaa
-- with Sc
namespace Lab
end Lab
namespace Go.Proofs.Ytmadldgajjgbmaa
open Go.RowKit
set_option linter.unusedVariables false
set_option linter.unusedSimpArgs false

end Go.Proofs.Ytmadldgajjgbmaa
-- with Sd
namespace Go.Proofs.Ytmadldgajjgbmaa
open Go.RowKit
set_option linter.unusedVariables false
set_option linter.unusedSimpArgs false

/-- A slice of pairs, in a block below n₀, with room for them, reads as a list of them. -/
def RC (n₀ : Nat) (w : World) (v : Value) (ps : List (Nat × Int)) : Prop :=
  (v = .slice none 0 0 ∧ ps = []) ∨ ∃ b off cap, v = .slice (some ⟨b, off, none⟩) ps.length cap ∧ b < n₀ ∧ ps.length ≤ cap ∧ ps.length ≤ 140737488351232 ∧
    ∀ i p, ps[i]? = some p → w.cell? ⟨b, off + i * 2, none⟩ = some (.int .u32 p.1) ∧ w.cell? ⟨b, off + i * 2 + 1, none⟩ = some (.int .i64 p.2)
theorem RC.below {n₀ : Nat} {w w' : World} {v : Value} {ps : List (Nat × Int)} (h : RC n₀ w v ps) (hb : Below n₀ w w') : RC n₀ w' v ps := by
  rcases h with h | ⟨b, off, cap, h1, h2, h3, h4, h5⟩
  · exact .inl h
  · refine .inr ⟨b, off, cap, h1, h2, h3, h4, fun i p hp => ?_⟩
    rw [hb.cell (p := ⟨b, _, none⟩) h2, hb.cell (p := ⟨b, _, none⟩) h2]
    exact h5 i p hp
theorem RC.mono {n₀ n₁ : Nat} {w : World} {v : Value} {ps : List (Nat × Int)} (h : RC n₀ w v ps) (hn : n₀ ≤ n₁) : RC n₁ w v ps := by
  rcases h with h | ⟨b, off, cap, h1, h2, h3⟩
  · exact .inl h
  · exact .inr ⟨b, off, cap, h1, by omega, h3⟩
theorem RC.reads {n₀ : Nat} {w : World} {v : Value} {ps : List (Nat × Int)} (h : RC n₀ w v ps) (hn : n₀ ≤ w.heap.size) : Reads w v ps := by
  rcases h with h | ⟨b, off, cap, h1, h2, h3, h4, h5⟩
  · exact .inl h
  · exact .inr ⟨b, off, cap, h1, by omega, h4, h5⟩
theorem RC.nil {n₀ : Nat} {w : World} {v : Value} (h : RC n₀ w v []) : ∃ a c, v = .slice a 0 c := by
  rcases h with ⟨rfl, _⟩ | ⟨b, off, cap, rfl, _⟩
  · exact ⟨_, _, rfl⟩
  · exact ⟨_, _, rfl⟩
/-- The head of it, and what slicing it off leaves. -/
theorem RC.cons {n₀ : Nat} {w : World} {v : Value} {p : Nat × Int} {ps : List (Nat × Int)} (h : RC n₀ w v (p :: ps)) :
    ∃ b off cap off', v = .slice (some ⟨b, off, none⟩) (ps.length + 1) cap ∧ b < n₀ ∧ 1 ≤ cap ∧
      w.cell? ⟨b, off, none⟩ = some (.int .u32 p.1) ∧ w.cell? ⟨b, off + 1, none⟩ = some (.int .i64 p.2) ∧
      (∀ wx, (Instr.slice 39 (.slice (some ⟨b, off, none⟩) (ps.length + 1) cap) (some (.int .i64 1)) none none).run Try.prog wx = .ok (.slice (some ⟨b, off', none⟩) ps.length (cap - 1)) wx) ∧
      ∀ w', Below n₀ w w' → RC n₀ w' (.slice (some ⟨b, off', none⟩) ps.length (cap - 1)) ps := by
  rcases h with ⟨_, h⟩ | ⟨b, off, cap, rfl, h2, h3, h4, h5⟩
  · cases h
  · simp only [List.length_cons] at h3 h4 ⊢
    obtain ⟨c1, c2⟩ := h5 0 p rfl
    simp only [Nat.zero_mul, Nat.add_zero] at c1 c2
    refine ⟨b, off, cap, if cap = 1 then off else off + 2, rfl, h2, by omega, c1, c2, fun wx => ?_, fun w' hb => ?_⟩
    · have u22 := Try.underlying39
      have z47 := Try.sizeOf47
      by_cases e : cap = 1
      · subst e
        have e0 : ps.length = 0 := by omega
        go_simp
      · rw [if_neg e]
        go_simp
        intro h
        omega
    · refine .inr ⟨b, _, cap - 1, rfl, h2, by omega, by omega, fun i q hq => ?_⟩
      have hi := (List.getElem?_eq_some_iff.1 hq).1
      rw [if_neg (by omega), hb.cell (p := ⟨b, _, none⟩) h2, hb.cell (p := ⟨b, _, none⟩) h2]
      have := h5 (i + 1) q (by simpa using hq)
      rw [show off + 2 + i * 2 = off + (i + 1) * 2 from by omega]
      exact this
end Go.Proofs.Ytmadldgajjgbmaa
-- with Nd
namespace Lab
set_option linter.unusedVariables false
set_option linter.unusedSimpArgs false

/-- A category's level put among the pairs. -/
def put (D : Int) (ps : List (Nat × Int)) (c : Nat) (l : Int) : List (Nat × Int) := ps.filter (fun p => decide (p.1 < c)) ++ ((if l = D then [] else [(c, l)]) ++ ps.filter (fun p => decide (c < p.1)))
end Lab
-- with Ne
namespace Lab
set_option linter.unusedVariables false
set_option linter.unusedSimpArgs false

def jn (D : Int) (ps : List (Nat × Int)) (E : Int) (qs : List (Nat × Int)) : List (Nat × Int) := mk (fun x y => max x y) (max D E) (zipm D E ps qs)
def tn (a b D : Int) (ps : List (Nat × Int)) : List (Nat × Int) := mk (fun x _ => turn a b x) (turn a b D) (zipm D D ps ps)
theorem tn_ok {a b D : Int} {ps : List (Nat × Int)} (h1 : Ok D ps) : Ok (turn a b D) (tn a b D ps) := mk_ok h1 h1 _
theorem mk_length (f : Int → Int → Int) (M D E : Int) (ps qs : List (Nat × Int)) : (mk f M (zipm D E ps qs)).length ≤ ps.length + qs.length := Nat.le_trans (mk_len _ _ _) (zipm_len _ _ _ _)
theorem tn_len (a b D : Int) (ps : List (Nat × Int)) : (tn a b D ps).length ≤ ps.length + ps.length := mk_length _ _ _ _ _ _
theorem zipm_map {D E : Int} {ps qs : List (Nat × Int)} {cs : List Nat} (h1 : Rise ps) (h2 : Rise qs) (hc : cs.Pairwise (· < ·)) (hm : ∀ c, c ∈ cs ↔ (∃ p ∈ ps, p.1 = c) ∨ ∃ q ∈ qs, q.1 = c) :
    zipm D E ps qs = cs.map (fun c => (c, at' D ps c, at' E qs c)) := by
  have e : (zipm D E ps qs).map (·.1) = cs := by
    refine rising_ext ?_ hc fun c => ?_
    · rw [List.pairwise_map]; exact zipm_rise D E h1 h2
    · rw [hm c, ← zipm_cats D E ps qs c, List.mem_map]
  rw [← e, List.map_map]
  conv => lhs; rw [← List.map_id (zipm D E ps qs)]
  refine List.map_congr_left fun t ht => ?_
  obtain ⟨a, b⟩ := zipm_at D E h1 h2 t ht
  obtain ⟨c, x, y⟩ := t
  simp only at a b
  simp [a, b]
theorem make_mk (f : Int → Int → Int) (M : Int) {D E : Int} {ps qs : List (Nat × Int)} {cs : List Nat} (h1 : Rise ps) (h2 : Rise qs) (hc : cs.Pairwise (· < ·)) (hm : ∀ c, c ∈ cs ↔ (∃ p ∈ ps, p.1 = c) ∨ ∃ q ∈ qs, q.1 = c) :
    make M cs (cs.map fun c => f (at' D ps c) (at' E qs c)) = mk f M (zipm D E ps qs) := by
  rw [zipm_map h1 h2 hc hm]
  unfold make mk
  clear hc hm
  induction cs with
  | nil => rfl
  | cons c r ih =>
    simp only [List.map_cons, List.zip_cons_cons]
    by_cases h : f (at' D ps c) (at' E qs c) = M
    · rw [List.filter_cons_of_neg (by simpa using h), List.filter_cons_of_neg (by simpa using h)]; exact ih
    · rw [List.filter_cons_of_pos (by simpa using h), List.filter_cons_of_pos (by simpa using h), List.map_cons, ih]
theorem catsOf_both {ps qs : List (Nat × Int)} {cs : List Nat} (h : CatsOf ((ps ++ qs).map (·.1)) cs) (c : Nat) : c ∈ cs ↔ (∃ p ∈ ps, p.1 = c) ∨ ∃ q ∈ qs, q.1 = c := by
  rw [h.2.1 c]; simp only [List.map_append, List.mem_append, List.mem_map]
theorem catsOf_one {ps : List (Nat × Int)} {cs : List Nat} (h : CatsOf (ps.map (·.1)) cs) (c : Nat) : c ∈ cs ↔ (∃ p ∈ ps, p.1 = c) ∨ ∃ q ∈ ps, q.1 = c := by
  rw [h.2.1 c]; simp only [List.mem_map, or_self]
theorem turn_tn {a b D : Int} {ps : List (Nat × Int)} {cs : List Nat} (h1 : Ok D ps) (h : CatsOf (ps.map (·.1)) cs) :
    make (turn a b D) cs (cs.map fun c => turn a b (at' D ps c)) = tn a b D ps := make_mk (fun x _ => turn a b x) _ h1.1 h1.1 h.1 (catsOf_one h)
theorem leq_is {D E : Int} {ps qs : List (Nat × Int)} {cs : List Nat} (h1 : Ok D ps) (h2 : Ok E qs) (h : CatsOf ((ps ++ qs).map (·.1)) cs) : leq cs D ps E qs = true ↔ ∀ c, at' D ps c ≤ at' E qs c := by
  unfold leq
  rw [Bool.and_eq_true, decide_eq_true_iff, List.all_eq_true]
  simp only [decide_eq_true_iff]
  constructor
  · rintro ⟨h3, h4⟩ c
    by_cases hc : c ∈ cs
    · exact h3 c hc
    · have hn := fun e => hc ((catsOf_both h c).2 e)
      rw [at_out (ps := ps) fun p hp e => hn (.inl ⟨p, hp, e⟩), at_out (ps := qs) fun p hp e => hn (.inr ⟨p, hp, e⟩)]
      exact h4
  · intro h3
    refine ⟨fun c _ => h3 c, ?_⟩
    have := h3 0
    rwa [at_zero h1, at_zero h2] at this
end Lab
-- with Se
namespace Go.Proofs.Ytmadldgajjgbmaa
open Go.RowKit
set_option linter.unusedVariables false
set_option linter.unusedSimpArgs false
attribute [local go_sem] Oper.semAt_some

/-- What a round of the loop over both labels keeps. -/
def KpB (n₀ B1 B2 : Nat) (W W' : World) : Prop := Below n₀ W W' ∧ (∀ o, W.heap[B1]? = some o → W'.heap[B1]? = some o) ∧ (∀ o, W.heap[B2]? = some o → W'.heap[B2]? = some o)
def encs (t : Nat × Int × Int) : Array Value := #[.int .u32 (t.1 : Int), .agg #[.int .i64 t.2.1, .int .i64 t.2.2]]
theorem grown_of_below {w w' : World} (hb : Below w.heap.size w w') : w.grownBy w' none := ⟨hb.os, hb.tape, hb.output, hb.size, fun k hk _ => hb.block k hk⟩
theorem fresh2 (w : World) (t : TypeId) (a b u v : Value) :
    (w.alloc (Obj.cells #[a, b] t)).cell? ⟨w.heap.size, 0, none⟩ = some a ∧ (w.alloc (Obj.cells #[a, b] t)).frozen? ⟨w.heap.size, 0, none⟩ = false ∧
    ((w.alloc (Obj.cells #[a, b] t)).setCell ⟨w.heap.size, 0, none⟩ u).cell? ⟨w.heap.size, 1, none⟩ = some b ∧ ((w.alloc (Obj.cells #[a, b] t)).setCell ⟨w.heap.size, 0, none⟩ u).frozen? ⟨w.heap.size, 1, none⟩ = false ∧
    (((w.alloc (Obj.cells #[a, b] t)).setCell ⟨w.heap.size, 0, none⟩ u).setCell ⟨w.heap.size, 1, none⟩ v).heap[w.heap.size]? = some (Obj.cells #[u, v] t) := by
  have h := heap_alloc_new w (Obj.cells #[a, b] t)
  have h1 := heap_setCell_same _ _ 0 _ t u h
  have h2 := heap_setCell_same _ _ 1 _ t v h1
  refine ⟨by rw [cell_of_row _ _ 0 _ t (0, 0) h]; rfl, frozen_of_row _ _ 0 _ t h, by rw [cell_of_row _ _ 1 _ t (0, 0) h1]; rfl, frozen_of_row _ _ 1 _ t h1, ?_⟩
  simpa using h2
set_option maxRecDepth 100000 in
set_option maxHeartbeats 4000000 in
theorem iter_in (n l B1 B2 n₀ : Nat) (hn : 1 ≤ n) (D E : Int) (v1 v2 : Value) (ps qs : List (Nat × Int)) (J Jx : List (Nat × Int × Int) → World → Prop) (W : World)
    (hJ : AbidesFrom W.heap.size J) (h0 : J [] W) (k1 : W.heap[B1]? = some (Obj.cells #[.int .i64 D, v1] 41)) (k2 : W.heap[B2]? = some (Obj.cells #[.int .i64 E, v2] 41)) (hn₀ : n₀ ≤ W.heap.size)
    (r1 : RC n₀ W v1 ps) (r2 : RC n₀ W v2 qs)
    (hY : ∀ pre t W1, J pre W1 → pre.length < (Lab.zipm D E ps qs).length → YieldAt Fence.wide (n - 1) Try.prog l (encs t) W1 fun e W' =>
      (e = .returned (.bool true) ∧ J (pre ++ [t]) W' ∧ KpB n₀ B1 B2 W1 W') ∨ (e = .returned (.bool false) ∧ Jx (pre ++ [t]) W')) :
    CallsIn Fence.wide n Try.prog 73 #[.func (.yield l) #[] #[], .pointer (some ⟨B1, 0, none⟩), .pointer (some ⟨B2, 0, none⟩)] W fun e W' => (∃ v, e = .returned v) ∧
      ((∃ ys, ys = Lab.zipm D E ps qs ∧ J ys W') ∨ (∃ pre, pre <+: Lab.zipm D E ps qs ∧ Jx pre W')) := by
  have HY := Lib.hid hY
  have HJ := Lib.hid hJ
  have H0 := Lib.hid h0
  have K := Lib.hid (And.intro k1 k2)
  have R1 := Lib.hid r1
  have R2 := Lib.hid r2
  have d1 : W.cell? ⟨B1, 1, none⟩ = some v1 := by rw [cell_of_row _ _ 1 _ 41 (0, 0) k1]; rfl
  have d2 : W.cell? ⟨B2, 1, none⟩ = some v2 := by rw [cell_of_row _ _ 1 _ 41 (0, 0) k2]; rfl
  clear hY hJ h0 r1 r2 k1 k2
  obtain ⟨a1, m1, c1, e1⟩ : ∃ a m c, v1 = .slice a m c := by rcases R1.out with ⟨h, _⟩ | ⟨b, off, cap, h, _⟩ <;> exact ⟨_, _, _, h⟩
  obtain ⟨a2, m2, c2, e2⟩ : ∃ a m c, v2 = .slice a m c := by rcases R2.out with ⟨h, _⟩ | ⟨b, off, cap, h, _⟩ <;> exact ⟨_, _, _, h⟩
  subst e1 e2
  refine callsIn_wide.2 ?_
  go_enter Try.func73, Try.ntmps73
  go_wp2
  go_quiet (fail)
  go_wp2_with fail
  go_loopg [4, 5] (ps.length + qs.length) (fun g p q wr => ∃ pre xs ys, Hid (Lab.zipm D E ps qs = pre ++ Lab.zipm D E xs ys) ∧ Hid (g = xs.length + ys.length) ∧ Hid (RC n₀ wr p xs) ∧ Hid (RC n₀ wr q ys) ∧ Hid (J pre wr) ∧
    Hid (n₀ ≤ wr.heap.size ∧ wr.heap[B1]? = some (Obj.cells #[.int .i64 D, .slice a1 m1 c1] 41) ∧ wr.heap[B2]? = some (Obj.cells #[.int .i64 E, .slice a2 m2 c2] 41)))
  case atStart => exact ⟨[], ps, qs, Lib.hid rfl, Lib.hid rfl, Lib.hid (R1.out.below (below_drewN (Below.refl _ _) _)), Lib.hid (R2.out.below (below_drewN (Below.refl _ _) _)), Lib.hid (HJ.out _ _ _ none H0.out (grown_of_below (below_drewN (Below.refl _ _) _)) (by simp)), Lib.hid ⟨hn₀, K.out⟩⟩
  case round =>
    obtain ⟨pre, xs, ys, hz, hg, hp, hq, hJs, hk⟩ := hrel
    have w1 : wr.cell? ⟨B1, 0, none⟩ = some (.int .i64 D) := by rw [cell_of_row _ _ 0 _ 41 (0, 0) hk.out.2.1]; rfl
    have w2 : wr.cell? ⟨B2, 0, none⟩ = some (.int .i64 E) := by rw [cell_of_row _ _ 0 _ 41 (0, 0) hk.out.2.2]; rfl
    cases xs with
    | nil =>
      cases ys with
      | nil =>
        obtain ⟨ap, cp, rfl⟩ := hp.out.nil
        obtain ⟨aq, cq, rfl⟩ := hq.out.nil
        have hz7 : Hid (Lab.zipm D E ps qs = pre) := Lib.hid (by rw [hz.out, Lab.zipm_nn]; simp)
        go_wp2_with fail
        go_end0
        exact ⟨⟨_, rfl⟩, .inl ⟨_, rfl, by rw [hz7.out]; exact hJs.out⟩⟩
      | cons y ys =>
        obtain ⟨y1, y2⟩ := y
        obtain ⟨ap, cp, rfl⟩ := hp.out.nil
        obtain ⟨b2, o2, cap2, o2', rfl, hb2, hcap2, h1, h2, hsl2, hrest2⟩ := hq.out.cons
        have HP := Lib.hid hp.out
        have HQ := Lib.hid hq.out
        have HR2 := Lib.hid hrest2
        have C1 := Lib.hid (first_q ap cp b2 o2 ys.length cap2 y1 wr h1)
        have HZ' : Hid (Lab.zipm D E ps qs = pre ++ (y1, D, y2) :: Lab.zipm D E [] ys) := Lib.hid (by rw [hz.out, Lab.zipm_nc])
        obtain ⟨n2, en2⟩ : ∃ n2, ys.length = n2 := ⟨_, rfl⟩
        rw [en2] at C1 hsl2 HR2 HQ ⊢
        have EN2 := Lib.hid en2
        clear hp hq hz hrest2 en2
        go_wp2_with fail
        refine C1.out.mono ?_
        rintro e wq ⟨rfl, hwq⟩
        have hsz : wq.heap.size = wr.heap.size := by obtain ⟨_, rfl⟩ := hwq; rfl
        have g1 : wq.cell? ⟨B1, 0, none⟩ = some (.int .i64 D) := by obtain ⟨_, rfl⟩ := hwq; exact w1
        have g2 : wq.cell? ⟨B2, 0, none⟩ = some (.int .i64 E) := by obtain ⟨_, rfl⟩ := hwq; exact w2
        have hbel : Below wr.heap.size wr wq := by obtain ⟨_, rfl⟩ := hwq; exact below_drewN (Below.refl _ _) _
        obtain ⟨s0, s1, s2, s3, _⟩ := fresh2 wq 121 (.int .i64 0) (.int .i64 0) (.int .i64 D) (.int .i64 E)
        clear hwq
        have HB := Lib.hid hbel
        have HZ := Lib.hid hsz
        clear hbel hsz
        have hW5 : Below wr.heap.size wr (wq.alloc (Obj.cells #[.int .i64 D, .int .i64 E] 121)) := HB.out.alloc (by rw [HZ.out]; exact Nat.le_refl _) _
        have k5 := heap_alloc_new wq (Obj.cells #[.int .i64 D, .int .i64 E] 121)
        go_upto_region 4 with fail
        obtain ⟨W5, e5⟩ : ∃ W5, W5 = wq.alloc (Obj.cells #[.int .i64 D, .int .i64 E] 121) := ⟨_, rfl⟩
        rw [← e5] at hW5 k5 ⊢
        clear e5 s0 s1 s2 s3 g1 g2 w1 w2
        have hbw2 : b2 < wr.heap.size := by have := hk.out.1; omega
        have q3 : W5.cell? ⟨b2, o2, none⟩ = some (.int .u32 y1) := by rw [hW5.cell (p := ⟨b2, _, none⟩) hbw2]; exact h1
        have q4 : W5.cell? ⟨b2, o2 + 1, none⟩ = some (.int .i64 y2) := by rw [hW5.cell (p := ⟨b2, _, none⟩) hbw2]; exact h2
        have q5 : W5.cell? ⟨wq.heap.size, 0, none⟩ = some (.int .i64 D) := by rw [cell_of_row _ _ 0 _ 121 (0, 0) k5]; rfl
        have q6 : W5.cell? ⟨wq.heap.size, 1, none⟩ = some (.int .i64 E) := by rw [cell_of_row _ _ 1 _ 121 (0, 0) k5]; rfl
        have q7 : W5.frozen? ⟨wq.heap.size, 0, none⟩ = false := frozen_of_row _ _ 0 _ 121 k5
        have q8 : W5.frozen? ⟨wq.heap.size, 1, none⟩ = false := frozen_of_row _ _ 1 _ 121 k5
        have HW5 := Lib.hid hW5
        have KW5 := Lib.hid k5
        clear hW5 k5
        go_upto_region 7 with fail
        go_region
        all_goals
          obtain ⟨W6, eW6⟩ : ∃ W6, W6 = (W5.setCell ⟨wq.heap.size, 1, none⟩ (.int .i64 y2)).drew := ⟨_, rfl⟩
          rw [← eW6]
          have k6 : W6.heap[wq.heap.size]? = some (Obj.cells #[.int .i64 D, .int .i64 y2] 121) := by rw [eW6]; have := heap_setCell_same _ _ 1 _ 121 (.int .i64 y2) KW5.out; exact (by simpa using this : (W5.setCell ⟨wq.heap.size, 1, none⟩ (.int .i64 y2)).heap[wq.heap.size]? = _)
          have hW6 : Below wr.heap.size wr W6 := by rw [eW6]; exact (HW5.out.setCell (by rw [HZ.out]; exact Nat.le_refl _) _).drew
          clear eW6 q5 q6 q7 q8 q3 q4
          have q3 : W6.cell? ⟨b2, o2, none⟩ = some (.int .u32 y1) := by rw [hW6.cell (p := ⟨b2, _, none⟩) hbw2]; exact h1
          have q5 : W6.cell? ⟨wq.heap.size, 0, none⟩ = some (.int .i64 D) := by rw [cell_of_row _ _ 0 _ 121 (0, 0) k6]; rfl
          have q6 : W6.cell? ⟨wq.heap.size, 1, none⟩ = some (.int .i64 y2) := by rw [cell_of_row _ _ 1 _ 121 (0, 0) k6]; rfl
          obtain ⟨fn, tmps, assign, body, hy, hR⟩ := HY.out pre (y1, D, y2) W6 (HJ.out _ _ _ none hJs.out (grown_of_below hW6) (by simp)) (by rw [HZ'.out]; simp)
          have HWf := Lib.hid hW6
          clear hW6 k6
          go_upto_region 8 with fail
          refine (wpIn_wide (n := n)).1 ?_
          dsimp only [encs] at hy
          gi_wp2
          refine hR.mono ?_
          rintro e W9 (⟨rfl, hJ7, hk7⟩ | ⟨rfl, hJx⟩)
          · have hB7 : Below n₀ wr W9 := (HWf.out.mono hk.out.1).trans hk7.1
            have hz7 : Hid (Lab.zipm D E ps qs = (pre ++ [(y1, D, y2)]) ++ Lab.zipm D E [] ys) := Lib.hid (by rw [HZ'.out]; simp)
            have hp7 := Lib.hid (HP.out.below hB7)
            have hq7 := Lib.hid (HR2.out W9 hB7)
            have hJ8 := Lib.hid hJ7
            have hk8 : Hid (n₀ ≤ W9.heap.size ∧ W9.heap[B1]? = some (Obj.cells #[.int .i64 D, .slice a1 m1 c1] 41) ∧ W9.heap[B2]? = some (Obj.cells #[.int .i64 E, .slice a2 m2 c2] 41)) :=
              Lib.hid ⟨by have := hB7.size; have := hk.out.1; omega, hk7.2.1 _ (by rw [HWf.out.block _ (Array.getElem?_eq_some_iff.1 hk.out.2.1).1]; exact hk.out.2.1), hk7.2.2 _ (by rw [HWf.out.block _ (Array.getElem?_eq_some_iff.1 hk.out.2.2).1]; exact hk.out.2.2)⟩
            clear hB7 hk7 hJ7
            gi_wp2
            go_wp2_with fail
            go_roundg (([] : List (Nat × Int)).length + ys.length)
            case measure => have := hg.out; simp only [List.length_cons, List.length_nil] at this ⊢; omega
            case rel => exact ⟨_, [], ys, hz7, Lib.hid rfl, hp7, hq7, hJ8, hk8⟩
          · have hJx := Lib.hid hJx
            have hpre := Lib.hid (show pre ++ [(y1, D, y2)] <+: Lab.zipm D E ps qs from ⟨Lab.zipm D E [] ys, by rw [HZ'.out]; simp⟩)
            gi_wp2
            go_wp2_with fail
            refine bodyPost_ret (results_none rfl _ _ _) rfl ?_
            exact ⟨⟨_, rfl⟩, .inr ⟨_, hpre.out, hJx.out⟩⟩
    | cons x xs =>
      obtain ⟨x1, x2⟩ := x
      cases ys with
      | nil =>
        obtain ⟨b1, o1, cap1, o1', rfl, hb1, hcap1, f1, f2, hsl1, hrest1⟩ := hp.out.cons
        obtain ⟨aq, cq, rfl⟩ := hq.out.nil
        have HP := Lib.hid hp.out
        have HQ := Lib.hid hq.out
        have HR1 := Lib.hid hrest1
        have C1 := Lib.hid (first_p aq cq b1 o1 xs.length cap1 x1 wr f1)
        have HZ' : Hid (Lab.zipm D E ps qs = pre ++ (x1, x2, E) :: Lab.zipm D E xs []) := Lib.hid (by rw [hz.out, Lab.zipm_cn])
        obtain ⟨n1, en1⟩ : ∃ n1, xs.length = n1 := ⟨_, rfl⟩
        rw [en1] at C1 hsl1 HR1 HP ⊢
        have EN1 := Lib.hid en1
        clear hp hq hz hrest1 en1
        go_wp2_with fail
        refine C1.out.mono ?_
        rintro e wq ⟨rfl, hwq⟩
        have hsz : wq.heap.size = wr.heap.size := by obtain ⟨_, rfl⟩ := hwq; rfl
        have g1 : wq.cell? ⟨B1, 0, none⟩ = some (.int .i64 D) := by obtain ⟨_, rfl⟩ := hwq; exact w1
        have g2 : wq.cell? ⟨B2, 0, none⟩ = some (.int .i64 E) := by obtain ⟨_, rfl⟩ := hwq; exact w2
        have hbel : Below wr.heap.size wr wq := by obtain ⟨_, rfl⟩ := hwq; exact below_drewN (Below.refl _ _) _
        obtain ⟨s0, s1, s2, s3, _⟩ := fresh2 wq 121 (.int .i64 0) (.int .i64 0) (.int .i64 D) (.int .i64 E)
        clear hwq
        have HB := Lib.hid hbel
        have HZ := Lib.hid hsz
        clear hbel hsz
        have hW5 : Below wr.heap.size wr (wq.alloc (Obj.cells #[.int .i64 D, .int .i64 E] 121)) := HB.out.alloc (by rw [HZ.out]; exact Nat.le_refl _) _
        have k5 := heap_alloc_new wq (Obj.cells #[.int .i64 D, .int .i64 E] 121)
        go_upto_region 4 with fail
        obtain ⟨W5, e5⟩ : ∃ W5, W5 = wq.alloc (Obj.cells #[.int .i64 D, .int .i64 E] 121) := ⟨_, rfl⟩
        rw [← e5] at hW5 k5 ⊢
        clear e5 s0 s1 s2 s3 g1 g2 w1 w2
        have hbw1 : b1 < wr.heap.size := by have := hk.out.1; omega
        have q1 : W5.cell? ⟨b1, o1, none⟩ = some (.int .u32 x1) := by rw [hW5.cell (p := ⟨b1, _, none⟩) hbw1]; exact f1
        have q2 : W5.cell? ⟨b1, o1 + 1, none⟩ = some (.int .i64 x2) := by rw [hW5.cell (p := ⟨b1, _, none⟩) hbw1]; exact f2
        have q5 : W5.cell? ⟨wq.heap.size, 0, none⟩ = some (.int .i64 D) := by rw [cell_of_row _ _ 0 _ 121 (0, 0) k5]; rfl
        have q6 : W5.cell? ⟨wq.heap.size, 1, none⟩ = some (.int .i64 E) := by rw [cell_of_row _ _ 1 _ 121 (0, 0) k5]; rfl
        have q7 : W5.frozen? ⟨wq.heap.size, 0, none⟩ = false := frozen_of_row _ _ 0 _ 121 k5
        have q8 : W5.frozen? ⟨wq.heap.size, 1, none⟩ = false := frozen_of_row _ _ 1 _ 121 k5
        have HW5 := Lib.hid hW5
        have KW5 := Lib.hid k5
        clear hW5 k5
        go_upto_region 5 with fail
        go_region
        all_goals
          obtain ⟨W6, eW6⟩ : ∃ W6, W6 = (W5.setCell ⟨wq.heap.size, 0, none⟩ (.int .i64 x2)).drew := ⟨_, rfl⟩
          rw [← eW6]
          have k6 : W6.heap[wq.heap.size]? = some (Obj.cells #[.int .i64 x2, .int .i64 E] 121) := by rw [eW6]; have := heap_setCell_same _ _ 0 _ 121 (.int .i64 x2) KW5.out; exact (by simpa using this : (W5.setCell ⟨wq.heap.size, 0, none⟩ (.int .i64 x2)).heap[wq.heap.size]? = _)
          have hW6 : Below wr.heap.size wr W6 := by rw [eW6]; exact (HW5.out.setCell (by rw [HZ.out]; exact Nat.le_refl _) _).drew
          clear eW6 q5 q6 q7 q8 q1 q2
          have q1 : W6.cell? ⟨b1, o1, none⟩ = some (.int .u32 x1) := by rw [hW6.cell (p := ⟨b1, _, none⟩) hbw1]; exact f1
          have q5 : W6.cell? ⟨wq.heap.size, 0, none⟩ = some (.int .i64 x2) := by rw [cell_of_row _ _ 0 _ 121 (0, 0) k6]; rfl
          have q6 : W6.cell? ⟨wq.heap.size, 1, none⟩ = some (.int .i64 E) := by rw [cell_of_row _ _ 1 _ 121 (0, 0) k6]; rfl
          obtain ⟨fn, tmps, assign, body, hy, hR⟩ := HY.out pre (x1, x2, E) W6 (HJ.out _ _ _ none hJs.out (grown_of_below hW6) (by simp)) (by rw [HZ'.out]; simp)
          have HWf := Lib.hid hW6
          clear hW6 k6
          go_upto_region 8 with fail
          refine (wpIn_wide (n := n)).1 ?_
          dsimp only [encs] at hy
          gi_wp2
          refine hR.mono ?_
          rintro e W9 (⟨rfl, hJ7, hk7⟩ | ⟨rfl, hJx⟩)
          · have hB7 : Below n₀ wr W9 := (HWf.out.mono hk.out.1).trans hk7.1
            have hz7 : Hid (Lab.zipm D E ps qs = (pre ++ [(x1, x2, E)]) ++ Lab.zipm D E xs []) := Lib.hid (by rw [HZ'.out]; simp)
            have hp7 := Lib.hid (HR1.out W9 hB7)
            have hq7 := Lib.hid (HQ.out.below hB7)
            have hJ8 := Lib.hid hJ7
            have hk8 : Hid (n₀ ≤ W9.heap.size ∧ W9.heap[B1]? = some (Obj.cells #[.int .i64 D, .slice a1 m1 c1] 41) ∧ W9.heap[B2]? = some (Obj.cells #[.int .i64 E, .slice a2 m2 c2] 41)) :=
              Lib.hid ⟨by have := hB7.size; have := hk.out.1; omega, hk7.2.1 _ (by rw [HWf.out.block _ (Array.getElem?_eq_some_iff.1 hk.out.2.1).1]; exact hk.out.2.1), hk7.2.2 _ (by rw [HWf.out.block _ (Array.getElem?_eq_some_iff.1 hk.out.2.2).1]; exact hk.out.2.2)⟩
            clear hB7 hk7 hJ7
            gi_wp2
            go_wp2_with fail
            go_roundg (xs.length + ([] : List (Nat × Int)).length)
            case measure => have := hg.out; simp only [List.length_cons, List.length_nil] at this ⊢; omega
            case rel => exact ⟨_, xs, [], hz7, Lib.hid rfl, hp7, hq7, hJ8, hk8⟩
          · have hJx := Lib.hid hJx
            have hpre := Lib.hid (show pre ++ [(x1, x2, E)] <+: Lab.zipm D E ps qs from ⟨Lab.zipm D E xs [], by rw [HZ'.out]; simp⟩)
            gi_wp2
            go_wp2_with fail
            refine bodyPost_ret (results_none rfl _ _ _) rfl ?_
            exact ⟨⟨_, rfl⟩, .inr ⟨_, hpre.out, hJx.out⟩⟩
      | cons y ys =>
        obtain ⟨y1, y2⟩ := y
        rcases Nat.lt_trichotomy x1 y1 with hlt | hlt | hlt
        · obtain ⟨b1, o1, cap1, o1', rfl, hb1, hcap1, f1, f2, hsl1, hrest1⟩ := hp.out.cons
          obtain ⟨b2, o2, cap2, o2', rfl, hb2, hcap2, h1, h2, hsl2, hrest2⟩ := hq.out.cons
          have HP := Lib.hid hp.out
          have HQ := Lib.hid hq.out
          have HR1 := Lib.hid hrest1
          have HR2 := Lib.hid hrest2
          have C1 := Lib.hid (first_pq b1 o1 xs.length cap1 b2 o2 ys.length cap2 x1 y1 x1 (by omega) wr f1 h1)
          have tf : ((y1 : Int) == (x1 : Int)) = false := by rw [beq_eq_false_iff_ne]; omega
          have HZ' : Hid (Lab.zipm D E ps qs = pre ++ (x1, x2, E) :: Lab.zipm D E xs ((y1, y2) :: ys)) := Lib.hid (by rw [hz.out, Lab.zipm_lt _ _ _ _ hlt])
          clear hlt
          obtain ⟨n1, en1⟩ : ∃ n1, xs.length = n1 := ⟨_, rfl⟩
          rw [en1] at C1 hsl1 HR1 HP ⊢
          have EN1 := Lib.hid en1
          obtain ⟨n2, en2⟩ : ∃ n2, ys.length = n2 := ⟨_, rfl⟩
          rw [en2] at C1 hsl2 HR2 HQ ⊢
          have EN2 := Lib.hid en2
          clear hp hq hz hrest1 en1 hrest2 en2
          go_wp2_with fail
          refine C1.out.mono ?_
          rintro e wq ⟨rfl, hwq⟩
          have hsz : wq.heap.size = wr.heap.size := by obtain ⟨_, rfl⟩ := hwq; rfl
          have g1 : wq.cell? ⟨B1, 0, none⟩ = some (.int .i64 D) := by obtain ⟨_, rfl⟩ := hwq; exact w1
          have g2 : wq.cell? ⟨B2, 0, none⟩ = some (.int .i64 E) := by obtain ⟨_, rfl⟩ := hwq; exact w2
          have hbel : Below wr.heap.size wr wq := by obtain ⟨_, rfl⟩ := hwq; exact below_drewN (Below.refl _ _) _
          obtain ⟨s0, s1, s2, s3, _⟩ := fresh2 wq 121 (.int .i64 0) (.int .i64 0) (.int .i64 D) (.int .i64 E)
          clear hwq
          have HB := Lib.hid hbel
          have HZ := Lib.hid hsz
          clear hbel hsz
          have hW5 : Below wr.heap.size wr (wq.alloc (Obj.cells #[.int .i64 D, .int .i64 E] 121)) := HB.out.alloc (by rw [HZ.out]; exact Nat.le_refl _) _
          have k5 := heap_alloc_new wq (Obj.cells #[.int .i64 D, .int .i64 E] 121)
          go_upto_region 4 with fail
          obtain ⟨W5, e5⟩ : ∃ W5, W5 = wq.alloc (Obj.cells #[.int .i64 D, .int .i64 E] 121) := ⟨_, rfl⟩
          rw [← e5] at hW5 k5 ⊢
          clear e5 s0 s1 s2 s3 g1 g2 w1 w2
          have hbw1 : b1 < wr.heap.size := by have := hk.out.1; omega
          have hbw2 : b2 < wr.heap.size := by have := hk.out.1; omega
          have q1 : W5.cell? ⟨b1, o1, none⟩ = some (.int .u32 x1) := by rw [hW5.cell (p := ⟨b1, _, none⟩) hbw1]; exact f1
          have q2 : W5.cell? ⟨b1, o1 + 1, none⟩ = some (.int .i64 x2) := by rw [hW5.cell (p := ⟨b1, _, none⟩) hbw1]; exact f2
          have q3 : W5.cell? ⟨b2, o2, none⟩ = some (.int .u32 y1) := by rw [hW5.cell (p := ⟨b2, _, none⟩) hbw2]; exact h1
          have q4 : W5.cell? ⟨b2, o2 + 1, none⟩ = some (.int .i64 y2) := by rw [hW5.cell (p := ⟨b2, _, none⟩) hbw2]; exact h2
          have q5 : W5.cell? ⟨wq.heap.size, 0, none⟩ = some (.int .i64 D) := by rw [cell_of_row _ _ 0 _ 121 (0, 0) k5]; rfl
          have q6 : W5.cell? ⟨wq.heap.size, 1, none⟩ = some (.int .i64 E) := by rw [cell_of_row _ _ 1 _ 121 (0, 0) k5]; rfl
          have q7 : W5.frozen? ⟨wq.heap.size, 0, none⟩ = false := frozen_of_row _ _ 0 _ 121 k5
          have q8 : W5.frozen? ⟨wq.heap.size, 1, none⟩ = false := frozen_of_row _ _ 1 _ 121 k5
          have HW5 := Lib.hid hW5
          have KW5 := Lib.hid k5
          clear hW5 k5
          go_upto_region 5 with fail
          go_region
          all_goals
            obtain ⟨W6, eW6⟩ : ∃ W6, W6 = (W5.setCell ⟨wq.heap.size, 0, none⟩ (.int .i64 x2)).drew := ⟨_, rfl⟩
            rw [← eW6]
            have k6 : W6.heap[wq.heap.size]? = some (Obj.cells #[.int .i64 x2, .int .i64 E] 121) := by rw [eW6]; have := heap_setCell_same _ _ 0 _ 121 (.int .i64 x2) KW5.out; exact (by simpa using this : (W5.setCell ⟨wq.heap.size, 0, none⟩ (.int .i64 x2)).heap[wq.heap.size]? = _)
            have hW6 : Below wr.heap.size wr W6 := by rw [eW6]; exact (HW5.out.setCell (by rw [HZ.out]; exact Nat.le_refl _) _).drew
            clear eW6 q5 q6 q7 q8 q1 q2 q3 q4
            have q1 : W6.cell? ⟨b1, o1, none⟩ = some (.int .u32 x1) := by rw [hW6.cell (p := ⟨b1, _, none⟩) hbw1]; exact f1
            have q3 : W6.cell? ⟨b2, o2, none⟩ = some (.int .u32 y1) := by rw [hW6.cell (p := ⟨b2, _, none⟩) hbw2]; exact h1
            have q5 : W6.cell? ⟨wq.heap.size, 0, none⟩ = some (.int .i64 x2) := by rw [cell_of_row _ _ 0 _ 121 (0, 0) k6]; rfl
            have q6 : W6.cell? ⟨wq.heap.size, 1, none⟩ = some (.int .i64 E) := by rw [cell_of_row _ _ 1 _ 121 (0, 0) k6]; rfl
            obtain ⟨fn, tmps, assign, body, hy, hR⟩ := HY.out pre (x1, x2, E) W6 (HJ.out _ _ _ none hJs.out (grown_of_below hW6) (by simp)) (by rw [HZ'.out]; simp)
            have HWf := Lib.hid hW6
            clear hW6 k6
            go_upto_region 8 with fail
            refine (wpIn_wide (n := n)).1 ?_
            dsimp only [encs] at hy
            gi_wp2
            refine hR.mono ?_
            rintro e W9 (⟨rfl, hJ7, hk7⟩ | ⟨rfl, hJx⟩)
            · have hB7 : Below n₀ wr W9 := (HWf.out.mono hk.out.1).trans hk7.1
              have hz7 : Hid (Lab.zipm D E ps qs = (pre ++ [(x1, x2, E)]) ++ Lab.zipm D E xs ((y1, y2) :: ys)) := Lib.hid (by rw [HZ'.out]; simp)
              have hp7 := Lib.hid (HR1.out W9 hB7)
              have hq7 := Lib.hid (HQ.out.below hB7)
              have hJ8 := Lib.hid hJ7
              have hk8 : Hid (n₀ ≤ W9.heap.size ∧ W9.heap[B1]? = some (Obj.cells #[.int .i64 D, .slice a1 m1 c1] 41) ∧ W9.heap[B2]? = some (Obj.cells #[.int .i64 E, .slice a2 m2 c2] 41)) :=
                Lib.hid ⟨by have := hB7.size; have := hk.out.1; omega, hk7.2.1 _ (by rw [HWf.out.block _ (Array.getElem?_eq_some_iff.1 hk.out.2.1).1]; exact hk.out.2.1), hk7.2.2 _ (by rw [HWf.out.block _ (Array.getElem?_eq_some_iff.1 hk.out.2.2).1]; exact hk.out.2.2)⟩
              clear hB7 hk7 hJ7
              gi_wp2
              go_wp2_with fail
              go_roundg (xs.length + ((y1, y2) :: ys).length)
              case measure => have := hg.out; simp only [List.length_cons, List.length_nil] at this ⊢; omega
              case rel => exact ⟨_, xs, ((y1, y2) :: ys), hz7, Lib.hid rfl, hp7, hq7, hJ8, hk8⟩
            · have hJx := Lib.hid hJx
              have hpre := Lib.hid (show pre ++ [(x1, x2, E)] <+: Lab.zipm D E ps qs from ⟨Lab.zipm D E xs ((y1, y2) :: ys), by rw [HZ'.out]; simp⟩)
              gi_wp2
              go_wp2_with fail
              refine bodyPost_ret (results_none rfl _ _ _) rfl ?_
              exact ⟨⟨_, rfl⟩, .inr ⟨_, hpre.out, hJx.out⟩⟩
        · subst hlt
          obtain ⟨b1, o1, cap1, o1', rfl, hb1, hcap1, f1, f2, hsl1, hrest1⟩ := hp.out.cons
          obtain ⟨b2, o2, cap2, o2', rfl, hb2, hcap2, h1, h2, hsl2, hrest2⟩ := hq.out.cons
          have HP := Lib.hid hp.out
          have HQ := Lib.hid hq.out
          have HR1 := Lib.hid hrest1
          have HR2 := Lib.hid hrest2
          have C1 := Lib.hid (first_pq b1 o1 xs.length cap1 b2 o2 ys.length cap2 x1 x1 x1 (by omega) wr f1 h1)
          have HZ' : Hid (Lab.zipm D E ps qs = pre ++ (x1, x2, y2) :: Lab.zipm D E xs ys) := Lib.hid (by rw [hz.out, Lab.zipm_eq D E (p := (x1, x2)) (q := (x1, y2)) xs ys rfl])
          obtain ⟨n1, en1⟩ : ∃ n1, xs.length = n1 := ⟨_, rfl⟩
          rw [en1] at C1 hsl1 HR1 HP ⊢
          have EN1 := Lib.hid en1
          obtain ⟨n2, en2⟩ : ∃ n2, ys.length = n2 := ⟨_, rfl⟩
          rw [en2] at C1 hsl2 HR2 HQ ⊢
          have EN2 := Lib.hid en2
          clear hp hq hz hrest1 en1 hrest2 en2
          go_wp2_with fail
          refine C1.out.mono ?_
          rintro e wq ⟨rfl, hwq⟩
          have hsz : wq.heap.size = wr.heap.size := by obtain ⟨_, rfl⟩ := hwq; rfl
          have g1 : wq.cell? ⟨B1, 0, none⟩ = some (.int .i64 D) := by obtain ⟨_, rfl⟩ := hwq; exact w1
          have g2 : wq.cell? ⟨B2, 0, none⟩ = some (.int .i64 E) := by obtain ⟨_, rfl⟩ := hwq; exact w2
          have hbel : Below wr.heap.size wr wq := by obtain ⟨_, rfl⟩ := hwq; exact below_drewN (Below.refl _ _) _
          obtain ⟨s0, s1, s2, s3, _⟩ := fresh2 wq 121 (.int .i64 0) (.int .i64 0) (.int .i64 D) (.int .i64 E)
          clear hwq
          have HB := Lib.hid hbel
          have HZ := Lib.hid hsz
          clear hbel hsz
          have hW5 : Below wr.heap.size wr (wq.alloc (Obj.cells #[.int .i64 D, .int .i64 E] 121)) := HB.out.alloc (by rw [HZ.out]; exact Nat.le_refl _) _
          have k5 := heap_alloc_new wq (Obj.cells #[.int .i64 D, .int .i64 E] 121)
          go_upto_region 4 with fail
          obtain ⟨W5, e5⟩ : ∃ W5, W5 = wq.alloc (Obj.cells #[.int .i64 D, .int .i64 E] 121) := ⟨_, rfl⟩
          rw [← e5] at hW5 k5 ⊢
          clear e5 s0 s1 s2 s3 g1 g2 w1 w2
          have hbw1 : b1 < wr.heap.size := by have := hk.out.1; omega
          have hbw2 : b2 < wr.heap.size := by have := hk.out.1; omega
          have q1 : W5.cell? ⟨b1, o1, none⟩ = some (.int .u32 x1) := by rw [hW5.cell (p := ⟨b1, _, none⟩) hbw1]; exact f1
          have q2 : W5.cell? ⟨b1, o1 + 1, none⟩ = some (.int .i64 x2) := by rw [hW5.cell (p := ⟨b1, _, none⟩) hbw1]; exact f2
          have q3 : W5.cell? ⟨b2, o2, none⟩ = some (.int .u32 x1) := by rw [hW5.cell (p := ⟨b2, _, none⟩) hbw2]; exact h1
          have q4 : W5.cell? ⟨b2, o2 + 1, none⟩ = some (.int .i64 y2) := by rw [hW5.cell (p := ⟨b2, _, none⟩) hbw2]; exact h2
          have q5 : W5.cell? ⟨wq.heap.size, 0, none⟩ = some (.int .i64 D) := by rw [cell_of_row _ _ 0 _ 121 (0, 0) k5]; rfl
          have q6 : W5.cell? ⟨wq.heap.size, 1, none⟩ = some (.int .i64 E) := by rw [cell_of_row _ _ 1 _ 121 (0, 0) k5]; rfl
          have q7 : W5.frozen? ⟨wq.heap.size, 0, none⟩ = false := frozen_of_row _ _ 0 _ 121 k5
          have q8 : W5.frozen? ⟨wq.heap.size, 1, none⟩ = false := frozen_of_row _ _ 1 _ 121 k5
          have HW5 := Lib.hid hW5
          have KW5 := Lib.hid k5
          clear hW5 k5
          go_upto_region 5 with fail
          go_region
          all_goals
            obtain ⟨W6, eW6⟩ : ∃ W6, W6 = (W5.setCell ⟨wq.heap.size, 0, none⟩ (.int .i64 x2)).drew := ⟨_, rfl⟩
            rw [← eW6]
            have k6 : W6.heap[wq.heap.size]? = some (Obj.cells #[.int .i64 x2, .int .i64 E] 121) := by rw [eW6]; have := heap_setCell_same _ _ 0 _ 121 (.int .i64 x2) KW5.out; exact (by simpa using this : (W5.setCell ⟨wq.heap.size, 0, none⟩ (.int .i64 x2)).heap[wq.heap.size]? = _)
            have hW6 : Below wr.heap.size wr W6 := by rw [eW6]; exact (HW5.out.setCell (by rw [HZ.out]; exact Nat.le_refl _) _).drew
            clear eW6 q5 q6 q7 q8 q1 q2 q3 q4
            have q1 : W6.cell? ⟨b1, o1, none⟩ = some (.int .u32 x1) := by rw [hW6.cell (p := ⟨b1, _, none⟩) hbw1]; exact f1
            have q2 : W6.cell? ⟨b1, o1 + 1, none⟩ = some (.int .i64 x2) := by rw [hW6.cell (p := ⟨b1, _, none⟩) hbw1]; exact f2
            have q3 : W6.cell? ⟨b2, o2, none⟩ = some (.int .u32 x1) := by rw [hW6.cell (p := ⟨b2, _, none⟩) hbw2]; exact h1
            have q4 : W6.cell? ⟨b2, o2 + 1, none⟩ = some (.int .i64 y2) := by rw [hW6.cell (p := ⟨b2, _, none⟩) hbw2]; exact h2
            have q5 : W6.cell? ⟨wq.heap.size, 0, none⟩ = some (.int .i64 x2) := by rw [cell_of_row _ _ 0 _ 121 (0, 0) k6]; rfl
            have q6 : W6.cell? ⟨wq.heap.size, 1, none⟩ = some (.int .i64 E) := by rw [cell_of_row _ _ 1 _ 121 (0, 0) k6]; rfl
            have q7 : W6.frozen? ⟨wq.heap.size, 0, none⟩ = false := frozen_of_row _ _ 0 _ 121 k6
            have q8 : W6.frozen? ⟨wq.heap.size, 1, none⟩ = false := frozen_of_row _ _ 1 _ 121 k6
            have HW6 := Lib.hid hW6
            have KW6 := Lib.hid k6
            clear hW6 k6
            go_upto_region 7 with fail
            go_region
            all_goals
              obtain ⟨W7, eW7⟩ : ∃ W7, W7 = (W6.setCell ⟨wq.heap.size, 1, none⟩ (.int .i64 y2)).drew := ⟨_, rfl⟩
              rw [← eW7]
              have k7 : W7.heap[wq.heap.size]? = some (Obj.cells #[.int .i64 x2, .int .i64 y2] 121) := by rw [eW7]; have := heap_setCell_same _ _ 1 _ 121 (.int .i64 y2) KW6.out; exact (by simpa using this : (W6.setCell ⟨wq.heap.size, 1, none⟩ (.int .i64 y2)).heap[wq.heap.size]? = _)
              have hW7 : Below wr.heap.size wr W7 := by rw [eW7]; exact (HW6.out.setCell (by rw [HZ.out]; exact Nat.le_refl _) _).drew
              clear eW7 q5 q6 q7 q8 q1 q2 q3 q4
              have q1 : W7.cell? ⟨b1, o1, none⟩ = some (.int .u32 x1) := by rw [hW7.cell (p := ⟨b1, _, none⟩) hbw1]; exact f1
              have q3 : W7.cell? ⟨b2, o2, none⟩ = some (.int .u32 x1) := by rw [hW7.cell (p := ⟨b2, _, none⟩) hbw2]; exact h1
              have q5 : W7.cell? ⟨wq.heap.size, 0, none⟩ = some (.int .i64 x2) := by rw [cell_of_row _ _ 0 _ 121 (0, 0) k7]; rfl
              have q6 : W7.cell? ⟨wq.heap.size, 1, none⟩ = some (.int .i64 y2) := by rw [cell_of_row _ _ 1 _ 121 (0, 0) k7]; rfl
              obtain ⟨fn, tmps, assign, body, hy, hR⟩ := HY.out pre (x1, x2, y2) W7 (HJ.out _ _ _ none hJs.out (grown_of_below hW7) (by simp)) (by rw [HZ'.out]; simp)
              have HWf := Lib.hid hW7
              clear hW7 k7
              go_upto_region 8 with fail
              refine (wpIn_wide (n := n)).1 ?_
              dsimp only [encs] at hy
              gi_wp2
              refine hR.mono ?_
              rintro e W9 (⟨rfl, hJ7, hk7⟩ | ⟨rfl, hJx⟩)
              · have hB7 : Below n₀ wr W9 := (HWf.out.mono hk.out.1).trans hk7.1
                have hz7 : Hid (Lab.zipm D E ps qs = (pre ++ [(x1, x2, y2)]) ++ Lab.zipm D E xs ys) := Lib.hid (by rw [HZ'.out]; simp)
                have hp7 := Lib.hid (HR1.out W9 hB7)
                have hq7 := Lib.hid (HR2.out W9 hB7)
                have hJ8 := Lib.hid hJ7
                have hk8 : Hid (n₀ ≤ W9.heap.size ∧ W9.heap[B1]? = some (Obj.cells #[.int .i64 D, .slice a1 m1 c1] 41) ∧ W9.heap[B2]? = some (Obj.cells #[.int .i64 E, .slice a2 m2 c2] 41)) :=
                  Lib.hid ⟨by have := hB7.size; have := hk.out.1; omega, hk7.2.1 _ (by rw [HWf.out.block _ (Array.getElem?_eq_some_iff.1 hk.out.2.1).1]; exact hk.out.2.1), hk7.2.2 _ (by rw [HWf.out.block _ (Array.getElem?_eq_some_iff.1 hk.out.2.2).1]; exact hk.out.2.2)⟩
                clear hB7 hk7 hJ7
                gi_wp2
                go_wp2_with fail
                go_roundg (xs.length + ys.length)
                case measure => have := hg.out; simp only [List.length_cons, List.length_nil] at this ⊢; omega
                case rel => exact ⟨_, xs, ys, hz7, Lib.hid rfl, hp7, hq7, hJ8, hk8⟩
              · have hJx := Lib.hid hJx
                have hpre := Lib.hid (show pre ++ [(x1, x2, y2)] <+: Lab.zipm D E ps qs from ⟨Lab.zipm D E xs ys, by rw [HZ'.out]; simp⟩)
                gi_wp2
                go_wp2_with fail
                refine bodyPost_ret (results_none rfl _ _ _) rfl ?_
                exact ⟨⟨_, rfl⟩, .inr ⟨_, hpre.out, hJx.out⟩⟩
        · obtain ⟨b1, o1, cap1, o1', rfl, hb1, hcap1, f1, f2, hsl1, hrest1⟩ := hp.out.cons
          obtain ⟨b2, o2, cap2, o2', rfl, hb2, hcap2, h1, h2, hsl2, hrest2⟩ := hq.out.cons
          have HP := Lib.hid hp.out
          have HQ := Lib.hid hq.out
          have HR1 := Lib.hid hrest1
          have HR2 := Lib.hid hrest2
          have C1 := Lib.hid (first_pq b1 o1 xs.length cap1 b2 o2 ys.length cap2 x1 y1 y1 (by omega) wr f1 h1)
          have tf : ((x1 : Int) == (y1 : Int)) = false := by rw [beq_eq_false_iff_ne]; omega
          have HZ' : Hid (Lab.zipm D E ps qs = pre ++ (y1, D, y2) :: Lab.zipm D E ((x1, x2) :: xs) ys) := Lib.hid (by rw [hz.out, Lab.zipm_gt _ _ _ _ hlt])
          clear hlt
          obtain ⟨n1, en1⟩ : ∃ n1, xs.length = n1 := ⟨_, rfl⟩
          rw [en1] at C1 hsl1 HR1 HP ⊢
          have EN1 := Lib.hid en1
          obtain ⟨n2, en2⟩ : ∃ n2, ys.length = n2 := ⟨_, rfl⟩
          rw [en2] at C1 hsl2 HR2 HQ ⊢
          have EN2 := Lib.hid en2
          clear hp hq hz hrest1 en1 hrest2 en2
          go_wp2_with fail
          refine C1.out.mono ?_
          rintro e wq ⟨rfl, hwq⟩
          have hsz : wq.heap.size = wr.heap.size := by obtain ⟨_, rfl⟩ := hwq; rfl
          have g1 : wq.cell? ⟨B1, 0, none⟩ = some (.int .i64 D) := by obtain ⟨_, rfl⟩ := hwq; exact w1
          have g2 : wq.cell? ⟨B2, 0, none⟩ = some (.int .i64 E) := by obtain ⟨_, rfl⟩ := hwq; exact w2
          have hbel : Below wr.heap.size wr wq := by obtain ⟨_, rfl⟩ := hwq; exact below_drewN (Below.refl _ _) _
          obtain ⟨s0, s1, s2, s3, _⟩ := fresh2 wq 121 (.int .i64 0) (.int .i64 0) (.int .i64 D) (.int .i64 E)
          clear hwq
          have HB := Lib.hid hbel
          have HZ := Lib.hid hsz
          clear hbel hsz
          have hW5 : Below wr.heap.size wr (wq.alloc (Obj.cells #[.int .i64 D, .int .i64 E] 121)) := HB.out.alloc (by rw [HZ.out]; exact Nat.le_refl _) _
          have k5 := heap_alloc_new wq (Obj.cells #[.int .i64 D, .int .i64 E] 121)
          go_upto_region 4 with fail
          obtain ⟨W5, e5⟩ : ∃ W5, W5 = wq.alloc (Obj.cells #[.int .i64 D, .int .i64 E] 121) := ⟨_, rfl⟩
          rw [← e5] at hW5 k5 ⊢
          clear e5 s0 s1 s2 s3 g1 g2 w1 w2
          have hbw1 : b1 < wr.heap.size := by have := hk.out.1; omega
          have hbw2 : b2 < wr.heap.size := by have := hk.out.1; omega
          have q1 : W5.cell? ⟨b1, o1, none⟩ = some (.int .u32 x1) := by rw [hW5.cell (p := ⟨b1, _, none⟩) hbw1]; exact f1
          have q2 : W5.cell? ⟨b1, o1 + 1, none⟩ = some (.int .i64 x2) := by rw [hW5.cell (p := ⟨b1, _, none⟩) hbw1]; exact f2
          have q3 : W5.cell? ⟨b2, o2, none⟩ = some (.int .u32 y1) := by rw [hW5.cell (p := ⟨b2, _, none⟩) hbw2]; exact h1
          have q4 : W5.cell? ⟨b2, o2 + 1, none⟩ = some (.int .i64 y2) := by rw [hW5.cell (p := ⟨b2, _, none⟩) hbw2]; exact h2
          have q5 : W5.cell? ⟨wq.heap.size, 0, none⟩ = some (.int .i64 D) := by rw [cell_of_row _ _ 0 _ 121 (0, 0) k5]; rfl
          have q6 : W5.cell? ⟨wq.heap.size, 1, none⟩ = some (.int .i64 E) := by rw [cell_of_row _ _ 1 _ 121 (0, 0) k5]; rfl
          have q7 : W5.frozen? ⟨wq.heap.size, 0, none⟩ = false := frozen_of_row _ _ 0 _ 121 k5
          have q8 : W5.frozen? ⟨wq.heap.size, 1, none⟩ = false := frozen_of_row _ _ 1 _ 121 k5
          have HW5 := Lib.hid hW5
          have KW5 := Lib.hid k5
          clear hW5 k5
          go_upto_region 7 with fail
          go_region
          all_goals
            obtain ⟨W6, eW6⟩ : ∃ W6, W6 = (W5.setCell ⟨wq.heap.size, 1, none⟩ (.int .i64 y2)).drew := ⟨_, rfl⟩
            rw [← eW6]
            have k6 : W6.heap[wq.heap.size]? = some (Obj.cells #[.int .i64 D, .int .i64 y2] 121) := by rw [eW6]; have := heap_setCell_same _ _ 1 _ 121 (.int .i64 y2) KW5.out; exact (by simpa using this : (W5.setCell ⟨wq.heap.size, 1, none⟩ (.int .i64 y2)).heap[wq.heap.size]? = _)
            have hW6 : Below wr.heap.size wr W6 := by rw [eW6]; exact (HW5.out.setCell (by rw [HZ.out]; exact Nat.le_refl _) _).drew
            clear eW6 q5 q6 q7 q8 q1 q2 q3 q4
            have q1 : W6.cell? ⟨b1, o1, none⟩ = some (.int .u32 x1) := by rw [hW6.cell (p := ⟨b1, _, none⟩) hbw1]; exact f1
            have q3 : W6.cell? ⟨b2, o2, none⟩ = some (.int .u32 y1) := by rw [hW6.cell (p := ⟨b2, _, none⟩) hbw2]; exact h1
            have q5 : W6.cell? ⟨wq.heap.size, 0, none⟩ = some (.int .i64 D) := by rw [cell_of_row _ _ 0 _ 121 (0, 0) k6]; rfl
            have q6 : W6.cell? ⟨wq.heap.size, 1, none⟩ = some (.int .i64 y2) := by rw [cell_of_row _ _ 1 _ 121 (0, 0) k6]; rfl
            obtain ⟨fn, tmps, assign, body, hy, hR⟩ := HY.out pre (y1, D, y2) W6 (HJ.out _ _ _ none hJs.out (grown_of_below hW6) (by simp)) (by rw [HZ'.out]; simp)
            have HWf := Lib.hid hW6
            clear hW6 k6
            go_upto_region 8 with fail
            refine (wpIn_wide (n := n)).1 ?_
            dsimp only [encs] at hy
            gi_wp2
            refine hR.mono ?_
            rintro e W9 (⟨rfl, hJ7, hk7⟩ | ⟨rfl, hJx⟩)
            · have hB7 : Below n₀ wr W9 := (HWf.out.mono hk.out.1).trans hk7.1
              have hz7 : Hid (Lab.zipm D E ps qs = (pre ++ [(y1, D, y2)]) ++ Lab.zipm D E ((x1, x2) :: xs) ys) := Lib.hid (by rw [HZ'.out]; simp)
              have hp7 := Lib.hid (HP.out.below hB7)
              have hq7 := Lib.hid (HR2.out W9 hB7)
              have hJ8 := Lib.hid hJ7
              have hk8 : Hid (n₀ ≤ W9.heap.size ∧ W9.heap[B1]? = some (Obj.cells #[.int .i64 D, .slice a1 m1 c1] 41) ∧ W9.heap[B2]? = some (Obj.cells #[.int .i64 E, .slice a2 m2 c2] 41)) :=
                Lib.hid ⟨by have := hB7.size; have := hk.out.1; omega, hk7.2.1 _ (by rw [HWf.out.block _ (Array.getElem?_eq_some_iff.1 hk.out.2.1).1]; exact hk.out.2.1), hk7.2.2 _ (by rw [HWf.out.block _ (Array.getElem?_eq_some_iff.1 hk.out.2.2).1]; exact hk.out.2.2)⟩
              clear hB7 hk7 hJ7
              gi_wp2
              go_wp2_with fail
              go_roundg (((x1, x2) :: xs).length + ys.length)
              case measure => have := hg.out; simp only [List.length_cons, List.length_nil] at this ⊢; omega
              case rel => exact ⟨_, ((x1, x2) :: xs), ys, hz7, Lib.hid rfl, hp7, hq7, hJ8, hk8⟩
            · have hJx := Lib.hid hJx
              have hpre := Lib.hid (show pre ++ [(y1, D, y2)] <+: Lab.zipm D E ps qs from ⟨Lab.zipm D E ((x1, x2) :: xs) ys, by rw [HZ'.out]; simp⟩)
              gi_wp2
              go_wp2_with fail
              refine bodyPost_ret (results_none rfl _ _ _) rfl ?_
              exact ⟨⟨_, rfl⟩, .inr ⟨_, hpre.out, hJx.out⟩⟩
end Go.Proofs.Ytmadldgajjgbmaa
-- with Sf
namespace Go.Proofs.Ytmadldgajjgbmaa
open Go.RowKit
set_option linter.unusedVariables false
set_option linter.unusedSimpArgs false
attribute [local go_sem] Oper.semAt_some

theorem both_any (D E : Int) (v1 v2 : Value) (w : World) :
    Calls Try.prog 64 #[.agg #[.int .i64 D, v1], .agg #[.int .i64 E, v2]] w fun e w' =>
      e = .returned (.func (.func 73) #[] #[.pointer (some ⟨w.heap.size, 0, none⟩), .pointer (some ⟨w.heap.size + 1, 0, none⟩)]) ∧
      w' = (w.alloc (Obj.cells #[.int .i64 D, v1] 41)).alloc (Obj.cells #[.int .i64 E, v2] 41) := by
  go_enter Try.func64, Try.ntmps64
  go_wp2
  go_ret
  exact ⟨rfl, rfl⟩
theorem both_stops (n : Nat) (hn : 1 ≤ n) (B1 B2 n₀ : Nat) (D E : Int) (v1 v2 : Value) (ps qs : List (Nat × Int)) (w : World) (hn₀ : n₀ ≤ w.heap.size)
    (k1 : w.heap[B1]? = some (Obj.cells #[.int .i64 D, v1] 41)) (k2 : w.heap[B2]? = some (Obj.cells #[.int .i64 E, v2] 41)) (r1 : RC n₀ w v1 ps) (r2 : RC n₀ w v2 qs) :
    SeqStopsK Fence.wide n Try.prog 73 #[.pointer (some ⟨B1, 0, none⟩), .pointer (some ⟨B2, 0, none⟩)] encs (KpB n₀ B1 B2) (fun ys => ys = Lab.zipm D E ps qs) (fun pre => pre <+: Lab.zipm D E ps qs) (Lab.zipm D E ps qs).length w :=
  fun l J Jx W hW hJ _ hY h0 =>
    iter_in n l B1 B2 n₀ hn D E v1 v2 ps qs J Jx W hJ h0 (by rw [hW.block _ (Array.getElem?_eq_some_iff.1 k1).1]; exact k1) (by rw [hW.block _ (Array.getElem?_eq_some_iff.1 k2).1]; exact k2) (by have := hW.size; omega)
      (r1.below (hW.mono hn₀)) (r2.below (hW.mono hn₀)) hY
theorem kpB_t {n₀ B1 B2 : Nat} {A B C : World} (h : KpB n₀ B1 B2 A B) (k : KpB n₀ B1 B2 B C) : KpB n₀ B1 B2 A C :=
  ⟨h.1.trans k.1, fun o ho => k.2.1 o (h.2.1 o ho), fun o ho => k.2.2 o (h.2.2 o ho)⟩
theorem kpB_b {n₀ B1 B2 : Nat} {w : World} (hn : n₀ ≤ w.heap.size) (h1 : B1 < w.heap.size) (h2 : B2 < w.heap.size) (W : World) (l : Nat) (o o' : Obj) (hl : w.heap.size ≤ l) (h : W.heap[l]? = some o) (hc : o.isCells = false) (hw : o.isWalk = false) : KpB n₀ B1 B2 W (W.putObj l o') :=
  ⟨belowK_b hn W l o o' hl h hc hw, fun x hx => (World.putObj_heap_other (by omega)).trans hx, fun x hx => (World.putObj_heap_other (by omega)).trans hx⟩
/-- A block of cells abides. -/
theorem blk_own {β : Type} (B : Nat) (o : β → Obj) (hc : ∀ s, (o s).isCells = true) : Own (fun s W => W.heap[B]? = some (o s)) := fun s X Y row hs hg hrow =>
  (hg.block B (Array.getElem?_eq_some_iff.1 hs).1 (fun e => by obtain ⟨o', ho', hc'⟩ := hrow B e.symm; rw [hs] at ho'; cases ho'; rw [hc s] at hc'; cases hc')).trans hs
/-- Is none of the first levels above its second? -/
def AllLe (z : List (Nat × Int × Int)) : Prop := ∀ t ∈ z, t.2.1 ≤ t.2.2
def LeqSays (r : Bool) (z : List (Nat × Int × Int)) : Prop := r = true ↔ AllLe z
theorem allLe_snoc {pre : List (Nat × Int × Int)} {c : Nat} {x y : Int} (h : AllLe pre) (hxy : x ≤ y) : AllLe (pre ++ [(c, x, y)]) := fun t ht => by
  rcases List.mem_append.1 ht with ht | ht
  · exact h t ht
  · simp at ht; subst ht; exact hxy
theorem not_allLe_snoc {pre : List (Nat × Int × Int)} {c : Nat} {x y : Int} (hxy : ¬ x ≤ y) : ¬ AllLe (pre ++ [(c, x, y)]) := fun h => hxy (h (c, x, y) (by simp))
theorem not_allLe_prefix {pre z : List (Nat × Int × Int)} (hp : pre <+: z) (h : ¬ AllLe pre) : ¬ AllLe z := fun hz => h fun t ht => hz t (hp.subset ht)
theorem results_bool {fn : Func} {p : Tmp} (h : fn.results = #[.cell p 4]) (tmps : Array Value) (w : World) (g : Nat) (v : Value) (hp : tmps.getD p undef = .pointer (some ⟨g, 0, none⟩)) (hg : w.cell? ⟨g, 0, none⟩ = some v) : (results fn tmps).run Try.prog w = .ok v w := by
  have hp' : tmps[p]?.getD undef = .pointer (some ⟨g, 0, none⟩) := by simpa using hp
  have a4 := Try.isAgg4
  have u4 := Try.underlying4
  simp [results, h, hp', asAddr, go_sem, hg]
set_option maxRecDepth 100000 in
set_option maxHeartbeats 4000000 in
theorem leq_le (D E : Int) (v1 v2 : Value) (ps qs : List (Nat × Int)) (w : World) (hde : D ≤ E) (r1 : RC w.heap.size w v1 ps) (r2 : RC w.heap.size w v2 qs) (r : Bool) (hr : LeqSays r (Lab.zipm D E ps qs)) :
    Calls Try.prog 53 #[.agg #[.int .i64 D, v1], .agg #[.int .i64 E, v2]] w fun e w' => e = .returned (.bool r) ∧ Below w.heap.size w w' := by
  have RR := Lib.hid hr
  clear hr
  have hde' : ¬ E < D := by omega
  have R1 := Lib.hid r1
  have R2 := Lib.hid r2
  have C1 := Lib.hid (fun (W : World) => both_any D E v1 v2 W)
  clear r1 r2 hde
  refine (callsIn_wide (n := 5)).1 ?_
  refine callsIn_of_wp_marks Try.func53 rfl trivial ?_ rfl
  simp only [Try.ntmps53, List.size_toArray, List.length_cons, List.length_nil, Nat.reduceAdd, Nat.reduceSub, Array.replicate_succ, Array.replicate_zero, List.push_toArray, List.append_toArray, List.nil_append, List.cons_append]
  refine wpIn_wide.2 ?_
  go_wp2_with fail
  refine (C1.out _).mono ?_
  rintro e W3 ⟨rfl, e3⟩
  go_wp2_with fail
  rw [← e3]
  have hW3 : Below w.heap.size w W3 ∧ W3.heap.size = w.heap.size + 5 ∧ W3.heap[w.heap.size + 1 + 1]? = some (Obj.cells #[.bool false] 4) ∧ W3.heap[w.heap.size + 1 + 1 + 1]? = some (Obj.cells #[.int .i64 D, v1] 41) ∧ W3.heap[w.heap.size + 1 + 1 + 1 + 1]? = some (Obj.cells #[.int .i64 E, v2] 41) := by
    rw [e3]
    refine ⟨(((((Below.refl _ _).alloc (Nat.le_refl _) _).alloc (by simp) _).alloc (by simp <;> omega) _).alloc (by simp <;> omega) _).alloc (by simp <;> omega) _, by simp, ?_, ?_, ?_⟩
    · rw [Below.heap_alloc _ _ _ (by simp <;> omega), Below.heap_alloc _ _ _ (by simp)]
      have := heap_alloc_new ((w.alloc (Obj.cells #[.int .i64 D, v1] 41)).alloc (Obj.cells #[.int .i64 E, v2] 41)) (Obj.cells #[.bool false] 4)
      simpa using this
    · rw [Below.heap_alloc _ _ _ (by simp)]
      have := heap_alloc_new (((w.alloc (Obj.cells #[.int .i64 D, v1] 41)).alloc (Obj.cells #[.int .i64 E, v2] 41)).alloc (Obj.cells #[.bool false] 4)) (Obj.cells #[.int .i64 D, v1] 41)
      simpa using this
    · have := heap_alloc_new ((((w.alloc (Obj.cells #[.int .i64 D, v1] 41)).alloc (Obj.cells #[.int .i64 E, v2] 41)).alloc (Obj.cells #[.bool false] 4)).alloc (Obj.cells #[.int .i64 D, v1] 41)) (Obj.cells #[.int .i64 E, v2] 41)
      simpa using this
  clear e3
  obtain ⟨hb3, hs3, hk0, hk1, hk2⟩ := hW3
  refine (wpIn_wide (n := 5)).1 ?_
  refine wpIn_rangeFunc_ownH rfl (by omega) (gf := 73) (lb := #[.pointer (some ⟨w.heap.size + 1 + 1 + 1, 0, none⟩), .pointer (some ⟨w.heap.size + 1 + 1 + 1 + 1, 0, none⟩)]) rfl trivial (enters_of Try.func73 (by kernel_rfl) rfl)
    (both_stops 4 (by omega) (w.heap.size + 1 + 1 + 1) (w.heap.size + 1 + 1 + 1 + 1) w.heap.size D E v1 v2 ps qs W3 (by omega) hk1 hk2 (R1.out.below hb3) (R2.out.below hb3)) (fun h k => kpB_t h k) (kpB_b (by omega) (by omega) (by omega)) (Below.refl _ _) (fun _ => rfl)
    (fun pre W => W.heap[w.heap.size + 1 + 1]? = some (Obj.cells #[.bool false] 4) ∧ (Below w.heap.size w W ∧ AllLe pre))
    (fun c pre W => W.heap[w.heap.size + 1 + 1]? = some (Obj.cells #[.bool false] 4) ∧ (Below w.heap.size w W ∧ (c = .ret ∧ ¬ AllLe pre)))
    (OwnFrom.and (Own.from (blk_own _ (fun _ => _) (fun _ => rfl)) _) (OwnFrom.and (ownFrom_below (Nat.le_refl _) (by omega)) (ownFrom_pure _ _)))
    (fun c => OwnFrom.and (Own.from (blk_own _ (fun _ => _) (fun _ => rfl)) _) (OwnFrom.and (ownFrom_below (Nat.le_refl _) (by omega)) (ownFrom_pure _ _)))
    ⟨hk0, hb3, fun t ht => by simp at ht⟩
    (fun t a' W => ∃ Bx, W.heap[Bx]? = some (Obj.cells #[.int .i64 t.2.1, .int .i64 t.2.2] 121) ∧ a' = { tmps := #[.agg #[.int .i64 D, v1], .agg #[.int .i64 E, v2], .pointer (some ⟨w.heap.size, 0, none⟩), .pointer (some ⟨w.heap.size + 1, 0, none⟩), .pointer (some ⟨w.heap.size + 1 + 1, 0, none⟩), undef, .pointer (some ⟨Bx, 0, none⟩),
      .pointer (some ⟨w.heap.size, 0, none⟩), .int .i64 D, .pointer (some ⟨w.heap.size + 1, 0, none⟩), .int .i64 E, .bool false, .agg #[.int .i64 D, v1], .agg #[.int .i64 E, v2],
      .func (.func 73) #[] #[.pointer (some ⟨w.heap.size + 1 + 1 + 1, 0, none⟩), .pointer (some ⟨w.heap.size + 1 + 1 + 1 + 1, 0, none⟩)], .int .u32 (t.1 : Int), .agg #[.int .i64 t.2.1, .int .i64 t.2.2], undef, undef, undef, undef, undef], defers := [] })
    ?own ?assign ?body ?done ?stop
  case own =>
    rintro t a' _ X Y row ⟨Bx, hx, rfl⟩ hg hr
    exact ⟨Bx, (hg.block Bx (Array.getElem?_eq_some_iff.1 hx).1 (fun e => by obtain ⟨_, o', ho', hc'⟩ := hr Bx e.symm; rw [hx] at ho'; cases ho'; cases hc')).trans hx, rfl⟩
  case assign =>
    rintro l pre t W K hi hK
    obtain ⟨c, x, y⟩ := t
    dsimp only [encs]
    obtain ⟨s0, s1, s2, s3, s4⟩ := fresh2 W 121 (.int .i64 0) (.int .i64 0) (.int .i64 x) (.int .i64 y)
    have hb : Below W.heap.size W (W.alloc (Obj.cells #[.int .i64 x, .int .i64 y] 121)) := (Below.refl _ _).alloc (Nat.le_refl _) _
    have h5 := heap_alloc_new W (Obj.cells #[.int .i64 x, .int .i64 y] 121)
    have hfin := Lib.hid fun (a' : Act) ha => hK a' (W.alloc (Obj.cells #[.int .i64 x, .int .i64 y] 121)) ((KeepsOthers.alloc _ _).from _) ⟨hb.mono hi.2.1.size, fun o ho => by rw [hb.block _ (Array.getElem?_eq_some_iff.1 ho).1]; exact ho, fun o ho => by rw [hb.block _ (Array.getElem?_eq_some_iff.1 ho).1]; exact ho⟩
      ⟨by rw [hb.block _ (Array.getElem?_eq_some_iff.1 hi.1).1]; exact hi.1, hi.2.1.trans (hb.mono hi.2.1.size), hi.2.2⟩ ⟨W.heap.size, h5, ha⟩
    clear hK
    gi_wp2
    exact hfin.out _ rfl
  case body =>
    rintro l pre ⟨c, x, y⟩ a' W hl hrec ⟨hi1, hi2, hi3⟩ ⟨Bx, hx, rfl⟩ hlt
    have c0 : W.cell? ⟨w.heap.size + 1 + 1, 0, none⟩ = some (.bool false) := by rw [cell_of_row _ _ 0 _ 4 (0, 0) hi1]; rfl
    have f0 : W.frozen? ⟨w.heap.size + 1 + 1, 0, none⟩ = false := frozen_of_row _ _ 0 _ 4 hi1
    have x0 : W.cell? ⟨Bx, 0, none⟩ = some (.int .i64 x) := by rw [cell_of_row _ _ 0 _ 121 (0, 0) hx]; rfl
    have x1 : W.cell? ⟨Bx, 1, none⟩ = some (.int .i64 y) := by rw [cell_of_row _ _ 1 _ 121 (0, 0) hx]; rfl
    by_cases hxy : x ≤ y
    · have hn : ¬ y < x := by omega
      gi_wp2
      exact ⟨KeepsFrom.refl _ _, ⟨Below.refl _ _, fun o h => h, fun o h => h⟩, hi1, hi2, allLe_snoc hi3 (by assumption)⟩
    · have hn : y < x := by omega
      gi_wp2
      refine ⟨(KeepsOthers.setCell _ _ _).from _, ?_, hi2.setCell (by simp <;> omega) _, rfl, not_allLe_snoc (by omega)⟩
      have := heap_setCell_same W _ 0 _ 4 (.bool false) hi1
      simpa using this
  case done =>
    rintro D' ys W hD rfl ⟨hi1, hi2, hi3⟩ hK
    have c0 : W.cell? ⟨w.heap.size + 1 + 1, 0, none⟩ = some (.bool false) := by rw [cell_of_row _ _ 0 _ 4 (0, 0) hi1]; rfl
    have f0 : W.frozen? ⟨w.heap.size + 1 + 1, 0, none⟩ = false := frozen_of_row _ _ 0 _ 4 hi1
    gi_wp2
    go_wp2_with fail
    refine ⟨by simp, .inl ⟨_, _, rfl, run_takeDeferred ((KeepsOthers.setCell W _ _).same D' _ hK rfl), ?_⟩⟩
    have hr := RR.out.2 hi3
    subst hr
    have hne : ¬ D' = w.heap.size + 1 + 1 := by omega
    have h1 := heap_setCell_same W _ 0 _ 4 (.bool true) hi1
    refine ⟨_, results_bool (by rfl) _ _ (w.heap.size + 1 + 1) (.bool true) (by rfl) ?_, rfl, ?_⟩
    · rw [cell_of_row _ _ 0 _ 4 (0, 0) ((World.putObj_heap_other (by omega)).trans h1)]; rfl
    · exact (hi2.setCell (by simp <;> omega) _).trans (belowK_b (w := w) (Nat.le_refl _) _ D' _ _ (by omega) ((KeepsOthers.setCell W _ _).same D' _ hK rfl) rfl rfl)
  case stop =>
    rintro D' c pre W hD hpre ⟨hi1, hi2, rfl, hi3⟩ hK
    have hr := Lib.hid (show r = false from by cases r with | false => rfl | true => exact absurd (RR.out.1 rfl) (not_allLe_prefix hpre hi3))
    gi_wp2
    refine ⟨by simp, .inl ⟨_, _, rfl, run_takeDeferred hK, ?_⟩⟩
    rw [hr.out]
    refine ⟨_, results_bool (by rfl) _ _ (w.heap.size + 1 + 1) (.bool false) (by rfl) ?_, rfl, ?_⟩
    · rw [cell_of_row _ _ 0 _ 4 (0, 0) ((World.putObj_heap_other (by omega)).trans hi1)]; rfl
    · exact hi2.trans (belowK_b (w := w) (Nat.le_refl _) _ D' _ _ (by omega) hK rfl rfl)
end Go.Proofs.Ytmadldgajjgbmaa
-- with Sg
namespace Go.Proofs.Ytmadldgajjgbmaa
open Go.RowKit
set_option linter.unusedVariables false
set_option linter.unusedSimpArgs false

theorem leq_gt (D E : Int) (v1 v2 : Value) (w : World) (hde : ¬ D ≤ E) :
    Calls Try.prog 53 #[.agg #[.int .i64 D, v1], .agg #[.int .i64 E, v2]] w fun e w' => e = .returned (.bool false) ∧ Below w.heap.size w w' := by
  have hde' : E < D := by omega
  clear hde
  have hB : Below w.heap.size w (((w.alloc (Obj.cells #[.int .i64 D, v1] 41)).alloc (Obj.cells #[.int .i64 E, v2] 41)).alloc (Obj.cells #[.bool false] 4)) := (((Below.refl _ _).alloc (Nat.le_refl _) _).alloc (by simp) _).alloc (by simp <;> omega) _
  have hk : (((w.alloc (Obj.cells #[.int .i64 D, v1] 41)).alloc (Obj.cells #[.int .i64 E, v2] 41)).alloc (Obj.cells #[.bool false] 4)).heap[w.heap.size + 1 + 1]? = some (Obj.cells #[.bool false] 4) := by
    have := heap_alloc_new ((w.alloc (Obj.cells #[.int .i64 D, v1] 41)).alloc (Obj.cells #[.int .i64 E, v2] 41)) (Obj.cells #[.bool false] 4)
    simpa using this
  obtain ⟨W3, e3⟩ : ∃ W3, W3 = ((w.alloc (Obj.cells #[.int .i64 D, v1] 41)).alloc (Obj.cells #[.int .i64 E, v2] 41)).alloc (Obj.cells #[.bool false] 4) := ⟨_, rfl⟩
  rw [← e3] at hB hk
  have c0 : W3.cell? ⟨w.heap.size + 1 + 1, 0, none⟩ = some (.bool false) := by rw [cell_of_row _ _ 0 _ 4 (0, 0) hk]; rfl
  have f0 : W3.frozen? ⟨w.heap.size + 1 + 1, 0, none⟩ = false := frozen_of_row _ _ 0 _ 4 hk
  have HB := Lib.hid hB
  have HK := Lib.hid hk
  clear hB hk
  go_enter Try.func53, Try.ntmps53
  go_upto_region 2 with fail
  rw [← e3]
  go_wp2
  refine bodyPost_ret (results_bool (by rfl) _ _ (w.heap.size + 1 + 1) (.bool false) (by rfl) (by rw [← e3]; exact c0)) rfl ⟨rfl, by rw [← e3]; exact HB.out⟩
/-- 'Leq' tells whether each level is at most the other's. -/
theorem pleq_any (D E : Int) (v1 v2 : Value) (ps qs : List (Nat × Int)) (w : World) (o1 : Lab.Ok D ps) (o2 : Lab.Ok E qs) (r1 : RC w.heap.size w v1 ps) (r2 : RC w.heap.size w v2 qs) (r : Bool) (hr : r = true ↔ ∀ c, Lab.at' D ps c ≤ Lab.at' E qs c) :
    Calls Try.prog 53 #[.agg #[.int .i64 D, v1], .agg #[.int .i64 E, v2]] w fun e w' => e = .returned (.bool r) ∧ Below w.heap.size w w' := by
  have hz := Lab.leq_zip o1 o2
  by_cases hde : D ≤ E
  · exact leq_le D E v1 v2 ps qs w hde r1 r2 r ⟨fun h => (hz.2 (hr.1 h)).2, fun h => hr.2 (hz.1 ⟨hde, h⟩)⟩
  · have : r = false := by
      cases r with
      | false => rfl
      | true => exact absurd (hz.2 (hr.1 rfl)).1 hde
    subst this
    exact leq_gt D E v1 v2 w hde
end Go.Proofs.Ytmadldgajjgbmaa
