import Derived.Test.YtmbdglhihakkjaaSe
namespace Go.Proofs.Ytmbdglhihakkjaa
open Go.RowKit
set_option linter.unusedVariables false
set_option linter.unusedSimpArgs false
attribute [local go_sem] Oper.semAt_some

theorem both_any (D E : Int) (v1 v2 : Value) (w : World) :
    Calls Try.prog 62 #[.agg #[.int .i64 D, v1], .agg #[.int .i64 E, v2]] w fun e w' =>
      e = .returned (.func (.func 74) #[] #[.pointer (some ⟨w.heap.size, 0, none⟩), .pointer (some ⟨w.heap.size + 1, 0, none⟩)]) ∧
      w' = (w.alloc (Obj.cells #[.int .i64 D, v1] 29)).alloc (Obj.cells #[.int .i64 E, v2] 29) := by
  go_enter Try.func62, Try.ntmps62
  go_wp2
  go_ret
  exact ⟨rfl, rfl⟩
theorem both_stops (n : Nat) (hn : 1 ≤ n) (B1 B2 n₀ : Nat) (D E : Int) (v1 v2 : Value) (ps qs : List (Nat × Int)) (w : World) (hn₀ : n₀ ≤ w.heap.size)
    (k1 : w.heap[B1]? = some (Obj.cells #[.int .i64 D, v1] 29)) (k2 : w.heap[B2]? = some (Obj.cells #[.int .i64 E, v2] 29)) (r1 : RC n₀ w v1 ps) (r2 : RC n₀ w v2 qs) :
    SeqStopsK Fence.wide n Try.prog 74 #[.pointer (some ⟨B1, 0, none⟩), .pointer (some ⟨B2, 0, none⟩)] encs (KpB n₀ B1 B2) (fun ys => ys = Lab.zipm D E ps qs) (fun pre => pre <+: Lab.zipm D E ps qs) (Lab.zipm D E ps qs).length w :=
  fun l J Jx W hW hJ _ hY h0 =>
    iter_in n l B1 B2 n₀ hn D E v1 v2 ps qs J Jx W hJ h0 (by rw [hW.block _ (Array.getElem?_eq_some_iff.1 k1).1]; exact k1) (by rw [hW.block _ (Array.getElem?_eq_some_iff.1 k2).1]; exact k2) (by have := hW.size; omega)
      (r1.below (hW.mono hn₀)) (r2.below (hW.mono hn₀)) hY
theorem kpB_t {n₀ B1 B2 : Nat} {A B C : World} (h : KpB n₀ B1 B2 A B) (k : KpB n₀ B1 B2 B C) : KpB n₀ B1 B2 A C :=
  ⟨h.1.trans k.1, fun o ho => k.2.1 o (h.2.1 o ho), fun o ho => k.2.2 o (h.2.2 o ho)⟩
theorem kpB_b {n₀ B1 B2 : Nat} {w : World} (hn : n₀ ≤ w.heap.size) (h1 : B1 < w.heap.size) (h2 : B2 < w.heap.size) (W : World) (l : Nat) (o o' : Obj) (hl : w.heap.size ≤ l) (h : W.heap[l]? = some o) (hc : o.isCells = false) (hw : o.isWalk = false) : KpB n₀ B1 B2 W (W.putObj l o') :=
  ⟨belowK_b hn W l o o' hl h hc hw, fun x hx => (World.putObj_heap_other (by omega)).trans hx, fun x hx => (World.putObj_heap_other (by omega)).trans hx⟩
/-- A block of cells abides. -/
theorem blk_own {β : Type} (B : Nat) (o : β → Obj) (hc : ∀ s, (o s).isCells = true) : Own (fun s W => W.heap[B]? = some (o s)) := fun s X Y row hs hg hrow =>
  (hg.block B (Array.getElem?_eq_some_iff.1 hs).1 (fun e => by obtain ⟨o', ho', hc'⟩ := hrow B e.symm; rw [hs] at ho'; cases ho'; rw [hc s] at hc'; cases hc')).trans hs
/-- Is none of the first levels above its second? -/
def AllLe (z : List (Nat × Int × Int)) : Prop := ∀ t ∈ z, t.2.1 ≤ t.2.2
def LeqSays (r : Bool) (z : List (Nat × Int × Int)) : Prop := r = true ↔ AllLe z
theorem allLe_snoc {pre : List (Nat × Int × Int)} {c : Nat} {x y : Int} (h : AllLe pre) (hxy : x ≤ y) : AllLe (pre ++ [(c, x, y)]) := fun t ht => by
  rcases List.mem_append.1 ht with ht | ht
  · exact h t ht
  · simp at ht; subst ht; exact hxy
theorem not_allLe_snoc {pre : List (Nat × Int × Int)} {c : Nat} {x y : Int} (hxy : ¬ x ≤ y) : ¬ AllLe (pre ++ [(c, x, y)]) := fun h => hxy (h (c, x, y) (by simp))
theorem not_allLe_prefix {pre z : List (Nat × Int × Int)} (hp : pre <+: z) (h : ¬ AllLe pre) : ¬ AllLe z := fun hz => h fun t ht => hz t (hp.subset ht)
theorem results_bool {fn : Func} {p : Tmp} (h : fn.results = #[.cell p 4]) (tmps : Array Value) (w : World) (g : Nat) (v : Value) (hp : tmps.getD p undef = .pointer (some ⟨g, 0, none⟩)) (hg : w.cell? ⟨g, 0, none⟩ = some v) : (results fn tmps).run Try.prog w = .ok v w := by
  have hp' : tmps[p]?.getD undef = .pointer (some ⟨g, 0, none⟩) := by simpa using hp
  have a4 := Try.isAgg4
  have u4 := Try.underlying4
  simp [results, h, hp', asAddr, go_sem, hg]
set_option maxRecDepth 100000 in
set_option maxHeartbeats 4000000 in
theorem leq_le (D E : Int) (v1 v2 : Value) (ps qs : List (Nat × Int)) (w : World) (hde : D ≤ E) (r1 : RC w.heap.size w v1 ps) (r2 : RC w.heap.size w v2 qs) (r : Bool) (hr : LeqSays r (Lab.zipm D E ps qs)) :
    Calls Try.prog 43 #[.agg #[.int .i64 D, v1], .agg #[.int .i64 E, v2]] w fun e w' => e = .returned (.bool r) ∧ Below w.heap.size w w' := by
  have RR := Lib.hid hr
  clear hr
  have hde' : ¬ E < D := by omega
  have R1 := Lib.hid r1
  have R2 := Lib.hid r2
  have C1 := Lib.hid (fun (W : World) => both_any D E v1 v2 W)
  clear r1 r2 hde
  refine (callsIn_wide (n := 5)).1 ?_
  refine callsIn_of_wp_marks Try.func43 rfl trivial ?_ rfl
  simp only [Try.ntmps43, List.size_toArray, List.length_cons, List.length_nil, Nat.reduceAdd, Nat.reduceSub, Array.replicate_succ, Array.replicate_zero, List.push_toArray, List.append_toArray, List.nil_append, List.cons_append]
  refine wpIn_wide.2 ?_
  go_wp2_with fail
  refine (C1.out _).mono ?_
  rintro e W3 ⟨rfl, e3⟩
  go_wp2_with fail
  rw [← e3]
  have hW3 : Below w.heap.size w W3 ∧ W3.heap.size = w.heap.size + 5 ∧ W3.heap[w.heap.size + 1 + 1]? = some (Obj.cells #[.bool false] 4) ∧ W3.heap[w.heap.size + 1 + 1 + 1]? = some (Obj.cells #[.int .i64 D, v1] 29) ∧ W3.heap[w.heap.size + 1 + 1 + 1 + 1]? = some (Obj.cells #[.int .i64 E, v2] 29) := by
    rw [e3]
    refine ⟨(((((Below.refl _ _).alloc (Nat.le_refl _) _).alloc (by simp) _).alloc (by simp <;> omega) _).alloc (by simp <;> omega) _).alloc (by simp <;> omega) _, by simp, ?_, ?_, ?_⟩
    · rw [Below.heap_alloc _ _ _ (by simp <;> omega), Below.heap_alloc _ _ _ (by simp)]
      have := heap_alloc_new ((w.alloc (Obj.cells #[.int .i64 D, v1] 29)).alloc (Obj.cells #[.int .i64 E, v2] 29)) (Obj.cells #[.bool false] 4)
      simpa using this
    · rw [Below.heap_alloc _ _ _ (by simp)]
      have := heap_alloc_new (((w.alloc (Obj.cells #[.int .i64 D, v1] 29)).alloc (Obj.cells #[.int .i64 E, v2] 29)).alloc (Obj.cells #[.bool false] 4)) (Obj.cells #[.int .i64 D, v1] 29)
      simpa using this
    · have := heap_alloc_new ((((w.alloc (Obj.cells #[.int .i64 D, v1] 29)).alloc (Obj.cells #[.int .i64 E, v2] 29)).alloc (Obj.cells #[.bool false] 4)).alloc (Obj.cells #[.int .i64 D, v1] 29)) (Obj.cells #[.int .i64 E, v2] 29)
      simpa using this
  clear e3
  obtain ⟨hb3, hs3, hk0, hk1, hk2⟩ := hW3
  refine (wpIn_wide (n := 5)).1 ?_
  refine wpIn_rangeFunc_ownH rfl (by omega) (gf := 74) (lb := #[.pointer (some ⟨w.heap.size + 1 + 1 + 1, 0, none⟩), .pointer (some ⟨w.heap.size + 1 + 1 + 1 + 1, 0, none⟩)]) rfl trivial (enters_of Try.func74 (by kernel_rfl) rfl)
    (both_stops 4 (by omega) (w.heap.size + 1 + 1 + 1) (w.heap.size + 1 + 1 + 1 + 1) w.heap.size D E v1 v2 ps qs W3 (by omega) hk1 hk2 (R1.out.below hb3) (R2.out.below hb3)) (fun h k => kpB_t h k) (kpB_b (by omega) (by omega) (by omega)) (Below.refl _ _) (fun _ => rfl)
    (fun pre W => W.heap[w.heap.size + 1 + 1]? = some (Obj.cells #[.bool false] 4) ∧ (Below w.heap.size w W ∧ AllLe pre))
    (fun c pre W => W.heap[w.heap.size + 1 + 1]? = some (Obj.cells #[.bool false] 4) ∧ (Below w.heap.size w W ∧ (c = .ret ∧ ¬ AllLe pre)))
    (OwnFrom.and (Own.from (blk_own _ (fun _ => _) (fun _ => rfl)) _) (OwnFrom.and (ownFrom_below (Nat.le_refl _) (by omega)) (ownFrom_pure _ _)))
    (fun c => OwnFrom.and (Own.from (blk_own _ (fun _ => _) (fun _ => rfl)) _) (OwnFrom.and (ownFrom_below (Nat.le_refl _) (by omega)) (ownFrom_pure _ _)))
    ⟨hk0, hb3, fun t ht => by simp at ht⟩
    (fun t a' W => ∃ Bx, W.heap[Bx]? = some (Obj.cells #[.int .i64 t.2.1, .int .i64 t.2.2] 75) ∧ a' = { tmps := #[.agg #[.int .i64 D, v1], .agg #[.int .i64 E, v2], .pointer (some ⟨w.heap.size, 0, none⟩), .pointer (some ⟨w.heap.size + 1, 0, none⟩), .pointer (some ⟨w.heap.size + 1 + 1, 0, none⟩), undef, .pointer (some ⟨Bx, 0, none⟩),
      .pointer (some ⟨w.heap.size, 0, none⟩), .int .i64 D, .pointer (some ⟨w.heap.size + 1, 0, none⟩), .int .i64 E, .bool false, .agg #[.int .i64 D, v1], .agg #[.int .i64 E, v2],
      .func (.func 74) #[] #[.pointer (some ⟨w.heap.size + 1 + 1 + 1, 0, none⟩), .pointer (some ⟨w.heap.size + 1 + 1 + 1 + 1, 0, none⟩)], .int .u32 (t.1 : Int), .agg #[.int .i64 t.2.1, .int .i64 t.2.2], undef, undef, undef, undef, undef], defers := [] })
    ?own ?assign ?body ?done ?stop
  case own =>
    rintro t a' _ X Y row ⟨Bx, hx, rfl⟩ hg hr
    exact ⟨Bx, (hg.block Bx (Array.getElem?_eq_some_iff.1 hx).1 (fun e => by obtain ⟨_, o', ho', hc'⟩ := hr Bx e.symm; rw [hx] at ho'; cases ho'; cases hc')).trans hx, rfl⟩
  case assign =>
    rintro l pre t W K hi hK
    obtain ⟨c, x, y⟩ := t
    dsimp only [encs]
    obtain ⟨s0, s1, s2, s3, s4⟩ := fresh2 W 75 (.int .i64 0) (.int .i64 0) (.int .i64 x) (.int .i64 y)
    have hb : Below W.heap.size W (W.alloc (Obj.cells #[.int .i64 x, .int .i64 y] 75)) := (Below.refl _ _).alloc (Nat.le_refl _) _
    have h5 := heap_alloc_new W (Obj.cells #[.int .i64 x, .int .i64 y] 75)
    have hfin := Lib.hid fun (a' : Act) ha => hK a' (W.alloc (Obj.cells #[.int .i64 x, .int .i64 y] 75)) ((KeepsOthers.alloc _ _).from _) ⟨hb.mono hi.2.1.size, fun o ho => by rw [hb.block _ (Array.getElem?_eq_some_iff.1 ho).1]; exact ho, fun o ho => by rw [hb.block _ (Array.getElem?_eq_some_iff.1 ho).1]; exact ho⟩
      ⟨by rw [hb.block _ (Array.getElem?_eq_some_iff.1 hi.1).1]; exact hi.1, hi.2.1.trans (hb.mono hi.2.1.size), hi.2.2⟩ ⟨W.heap.size, h5, ha⟩
    clear hK
    gi_wp2
    exact hfin.out _ rfl
  case body =>
    rintro l pre ⟨c, x, y⟩ a' W hl hrec ⟨hi1, hi2, hi3⟩ ⟨Bx, hx, rfl⟩ hlt
    have c0 : W.cell? ⟨w.heap.size + 1 + 1, 0, none⟩ = some (.bool false) := by rw [cell_of_row _ _ 0 _ 4 (0, 0) hi1]; rfl
    have f0 : W.frozen? ⟨w.heap.size + 1 + 1, 0, none⟩ = false := frozen_of_row _ _ 0 _ 4 hi1
    have x0 : W.cell? ⟨Bx, 0, none⟩ = some (.int .i64 x) := by rw [cell_of_row _ _ 0 _ 75 (0, 0) hx]; rfl
    have x1 : W.cell? ⟨Bx, 1, none⟩ = some (.int .i64 y) := by rw [cell_of_row _ _ 1 _ 75 (0, 0) hx]; rfl
    by_cases hxy : x ≤ y
    · have hn : ¬ y < x := by omega
      gi_wp2
      exact ⟨KeepsFrom.refl _ _, ⟨Below.refl _ _, fun o h => h, fun o h => h⟩, hi1, hi2, allLe_snoc hi3 (by assumption)⟩
    · have hn : y < x := by omega
      gi_wp2
      refine ⟨(KeepsOthers.setCell _ _ _).from _, ?_, hi2.setCell (by simp <;> omega) _, rfl, not_allLe_snoc (by omega)⟩
      have := heap_setCell_same W _ 0 _ 4 (.bool false) hi1
      simpa using this
  case done =>
    rintro D' ys W hD rfl ⟨hi1, hi2, hi3⟩ hK
    have c0 : W.cell? ⟨w.heap.size + 1 + 1, 0, none⟩ = some (.bool false) := by rw [cell_of_row _ _ 0 _ 4 (0, 0) hi1]; rfl
    have f0 : W.frozen? ⟨w.heap.size + 1 + 1, 0, none⟩ = false := frozen_of_row _ _ 0 _ 4 hi1
    gi_wp2
    go_wp2_with fail
    refine ⟨by simp, .inl ⟨_, _, rfl, run_takeDeferred ((KeepsOthers.setCell W _ _).same D' _ hK rfl), ?_⟩⟩
    have hr := RR.out.2 hi3
    subst hr
    have hne : ¬ D' = w.heap.size + 1 + 1 := by omega
    have h1 := heap_setCell_same W _ 0 _ 4 (.bool true) hi1
    refine ⟨_, results_bool (by rfl) _ _ (w.heap.size + 1 + 1) (.bool true) (by rfl) ?_, rfl, ?_⟩
    · rw [cell_of_row _ _ 0 _ 4 (0, 0) ((World.putObj_heap_other (by omega)).trans h1)]; rfl
    · exact (hi2.setCell (by simp <;> omega) _).trans (belowK_b (w := w) (Nat.le_refl _) _ D' _ _ (by omega) ((KeepsOthers.setCell W _ _).same D' _ hK rfl) rfl rfl)
  case stop =>
    rintro D' c pre W hD hpre ⟨hi1, hi2, rfl, hi3⟩ hK
    have hr := Lib.hid (show r = false from by cases r with | false => rfl | true => exact absurd (RR.out.1 rfl) (not_allLe_prefix hpre hi3))
    gi_wp2
    refine ⟨by simp, .inl ⟨_, _, rfl, run_takeDeferred hK, ?_⟩⟩
    rw [hr.out]
    refine ⟨_, results_bool (by rfl) _ _ (w.heap.size + 1 + 1) (.bool false) (by rfl) ?_, rfl, ?_⟩
    · rw [cell_of_row _ _ 0 _ 4 (0, 0) ((World.putObj_heap_other (by omega)).trans hi1)]; rfl
    · exact hi2.trans (belowK_b (w := w) (Nat.le_refl _) _ D' _ _ (by omega) hK rfl rfl)
end Go.Proofs.Ytmbdglhihakkjaa
-- with Sg
namespace Go.Proofs.Ytmbdglhihakkjaa
open Go.RowKit
set_option linter.unusedVariables false
set_option linter.unusedSimpArgs false

theorem leq_gt (D E : Int) (v1 v2 : Value) (w : World) (hde : ¬ D ≤ E) :
    Calls Try.prog 43 #[.agg #[.int .i64 D, v1], .agg #[.int .i64 E, v2]] w fun e w' => e = .returned (.bool false) ∧ Below w.heap.size w w' := by
  have hde' : E < D := by omega
  clear hde
  have hB : Below w.heap.size w (((w.alloc (Obj.cells #[.int .i64 D, v1] 29)).alloc (Obj.cells #[.int .i64 E, v2] 29)).alloc (Obj.cells #[.bool false] 4)) := (((Below.refl _ _).alloc (Nat.le_refl _) _).alloc (by simp) _).alloc (by simp <;> omega) _
  have hk : (((w.alloc (Obj.cells #[.int .i64 D, v1] 29)).alloc (Obj.cells #[.int .i64 E, v2] 29)).alloc (Obj.cells #[.bool false] 4)).heap[w.heap.size + 1 + 1]? = some (Obj.cells #[.bool false] 4) := by
    have := heap_alloc_new ((w.alloc (Obj.cells #[.int .i64 D, v1] 29)).alloc (Obj.cells #[.int .i64 E, v2] 29)) (Obj.cells #[.bool false] 4)
    simpa using this
  obtain ⟨W3, e3⟩ : ∃ W3, W3 = ((w.alloc (Obj.cells #[.int .i64 D, v1] 29)).alloc (Obj.cells #[.int .i64 E, v2] 29)).alloc (Obj.cells #[.bool false] 4) := ⟨_, rfl⟩
  rw [← e3] at hB hk
  have c0 : W3.cell? ⟨w.heap.size + 1 + 1, 0, none⟩ = some (.bool false) := by rw [cell_of_row _ _ 0 _ 4 (0, 0) hk]; rfl
  have f0 : W3.frozen? ⟨w.heap.size + 1 + 1, 0, none⟩ = false := frozen_of_row _ _ 0 _ 4 hk
  have HB := Lib.hid hB
  have HK := Lib.hid hk
  clear hB hk
  go_enter Try.func43, Try.ntmps43
  go_upto_region 2 with fail
  rw [← e3]
  go_wp2
  refine bodyPost_ret (results_bool (by rfl) _ _ (w.heap.size + 1 + 1) (.bool false) (by rfl) (by rw [← e3]; exact c0)) rfl ⟨rfl, by rw [← e3]; exact HB.out⟩
/-- 'Leq' tells whether each level is at most the other's. -/
theorem pleq_any (D E : Int) (v1 v2 : Value) (ps qs : List (Nat × Int)) (w : World) (o1 : Lab.Ok D ps) (o2 : Lab.Ok E qs) (r1 : RC w.heap.size w v1 ps) (r2 : RC w.heap.size w v2 qs) (r : Bool) (hr : r = true ↔ ∀ c, Lab.at' D ps c ≤ Lab.at' E qs c) :
    Calls Try.prog 43 #[.agg #[.int .i64 D, v1], .agg #[.int .i64 E, v2]] w fun e w' => e = .returned (.bool r) ∧ Below w.heap.size w w' := by
  have hz := Lab.leq_zip o1 o2
  by_cases hde : D ≤ E
  · exact leq_le D E v1 v2 ps qs w hde r1 r2 r ⟨fun h => (hz.2 (hr.1 h)).2, fun h => hr.2 (hz.1 ⟨hde, h⟩)⟩
  · have : r = false := by
      cases r with
      | false => rfl
      | true => exact absurd (hz.2 (hr.1 rfl)).1 hde
    subst this
    exact leq_gt D E v1 v2 w hde
theorem bool_is (p : Prop) : ∃ r : Bool, r = true ↔ p := by
  by_cases h : p
  · exact ⟨true, by simp [h]⟩
  · exact ⟨false, by simp [h]⟩
end Go.Proofs.Ytmbdglhihakkjaa
