import Derived.Test.YtmadldgajjgbmaaSa
import Derived.Test.YtmadldgajjgbmaaRa
import Derived.WalkSmall
import Derived.Shelf.AbstractIn
import Derived.Laws.MakeOwn
import Derived.Laws.Bits128
import Derived.Laws.AppendOwnNone
namespace Go.Proofs.Ytmadldgajjgbmaa
open Go.RowKit Go.Shelf
set_option linter.unusedVariables false
set_option linter.unusedSimpArgs false
attribute [local go_sem] Oper.semAt_some

theorem of_any (D : Int) (w : World) : Calls Try.prog 51 #[.int .i64 D] w fun e w' => e = .returned (.agg #[.int .i64 D, .slice none 0 0]) ∧ Below w.heap.size w w' := by
  have hB : Below w.heap.size w (w.alloc (Obj.cells #[.int .i64 D, .slice none 0 0] 41)) := (Below.refl _ _).alloc (Nat.le_refl _) _
  have hk := heap_alloc_new w (Obj.cells #[.int .i64 D, .slice none 0 0] 41)
  obtain ⟨s0, s1, s2, s3, _⟩ := fresh2 w 41 (.int .i64 0) (.slice none 0 0) (.int .i64 D) (.slice none 0 0)
  have HB := Lib.hid hB
  have HK := Lib.hid hk
  clear hB hk
  go_enter Try.func51, Try.ntmps51
  go_wp2
  refine bodyPost_ret (results_cell_row (by rfl) _ _ w.heap.size 41 _ (0, 0) _ (by rfl) HK.out Try.underlying41 rfl info24) rfl ⟨rfl, HB.out⟩
theorem old2 (w : World) (B : Nat) (t : TypeId) (a b u v : Value) (h : w.heap[B]? = some (Obj.cells #[a, b] t)) :
    w.cell? ⟨B, 0, none⟩ = some a ∧ w.frozen? ⟨B, 0, none⟩ = false ∧ (w.setCell ⟨B, 0, none⟩ u).cell? ⟨B, 1, none⟩ = some b ∧ (w.setCell ⟨B, 0, none⟩ u).frozen? ⟨B, 1, none⟩ = false ∧
    ((w.setCell ⟨B, 0, none⟩ u).setCell ⟨B, 1, none⟩ v).heap[B]? = some (Obj.cells #[u, v] t) ∧ w.cell? ⟨B, 1, none⟩ = some b := by
  have h1 := heap_setCell_same _ _ 0 _ t u h
  have h2 := heap_setCell_same _ _ 1 _ t v h1
  refine ⟨by rw [cell_of_row _ _ 0 _ t (0, 0) h]; rfl, frozen_of_row _ _ 0 _ t h, by rw [cell_of_row _ _ 1 _ t (0, 0) h1]; rfl, frozen_of_row _ _ 1 _ t h1, ?_, by rw [cell_of_row _ _ 1 _ t (0, 0) h]; rfl⟩
  simpa using h2
/-- What a function of two levels does, wherever what lay lies. -/
def Picks (g : Nat) (lb : Array Value) (f : Int → Int → Int) (w : World) : Prop :=
  ∀ (x y : Int) (W : World), Below w.heap.size w W → Calls Try.prog g (#[.int .i64 x, .int .i64 y] ++ lb) W fun e W' => e = .returned (.int .i64 (f x y)) ∧ W' = W
theorem own_lab {β : Type} (B base e : Nat) (M : Int) (k : β → Nat) (xs : β → List Value) : Own (fun s W => ∃ v, W.heap[B]? = some (Obj.cells #[.int .i64 M, v] 41) ∧ W.ownsRow base e 2 v (k s) (xs s)) := by
  rintro s X Y row ⟨v, hv, hr⟩ hg hrow
  refine ⟨v, (hg.block B (Array.getElem?_eq_some_iff.1 hv).1 (fun e' => ?_)).trans hv, hr.kept hg ?_⟩
  · obtain ⟨o, ho, hc⟩ := hrow B e'.symm
    rw [hv] at ho; cases ho; cases hc
  · rcases hr.2 with ⟨rfl, _⟩ | ⟨g, cap, cur, rfl, _, hgb, _⟩
    · exact .inl rfl
    · refine .inr fun e' => ?_
      obtain ⟨o, ho, hc⟩ := hrow g (by simpa [Value.ownBlock] using e'.symm)
      rw [hgb] at ho; cases ho; cases hc
set_option maxRecDepth 100000 in
set_option maxHeartbeats 4000000 in
theorem pmerge_any (g : Nat) (lb : Array Value) (f : Int → Int → Int) (D E : Int) (v1 v2 : Value) (ps qs : List (Nat × Int)) (w : World) (eg : ∀ args w, (callFunc g args).run Try.prog w = .ok (.enter g args) w) (hf : Picks g lb f w)
    (hn : ps.length + qs.length ≤ 8796093022207) (r1 : RC w.heap.size w v1 ps) (r2 : RC w.heap.size w v2 qs) :
    Calls Try.prog 75 #[.agg #[.int .i64 D, v1], .agg #[.int .i64 E, v2], .func (.func g) #[] lb] w fun e w' =>
      ∃ v, e = .returned (.agg #[.int .i64 (f D E), v]) ∧ (∀ m, m = Lab.mk f (f D E) (Lab.zipm D E ps qs) → w'.ownsRow w.heap.size 80 2 v m.length (F m)) ∧ Below w.heap.size w w' := by
  obtain ⟨i0, hi, hz0, hz1, hz2⟩ := info_parts info47
  have HF := Lib.hid hf
  have HN := Lib.hid hn
  have R1 := Lib.hid r1
  have R2 := Lib.hid r2
  obtain ⟨M, eM⟩ : ∃ M, f D E = M := ⟨_, rfl⟩
  have C0 := Lib.hid (fun (W : World) (h : Below w.heap.size w W) => eM ▸ hf D E W h)
  have C1 := Lib.hid (fun (W : World) => both_any D E v1 v2 W)
  have C2 := Lib.hid (fun (W : World) => of_any M W)
  rw [eM]
  clear hf hn r1 r2 eM
  refine (callsIn_wide (n := 5)).1 ?_
  refine callsIn_of_wp_marks Try.func75 rfl trivial ?_ rfl
  simp only [Try.ntmps75, List.size_toArray, List.length_cons, List.length_nil, Nat.reduceAdd, Nat.reduceSub, Array.replicate_succ, Array.replicate_zero, List.push_toArray, List.append_toArray, List.nil_append, List.cons_append]
  refine wpIn_wide.2 ?_
  have hW0 : Below w.heap.size w ((((w.alloc (Obj.cells #[.int .i64 D, v1] 41)).alloc (Obj.cells #[.int .i64 E, v2] 41)).alloc (Obj.cells #[.func (.func g) #[] lb] 129)).alloc (Obj.cells #[.int .i64 0, .slice none 0 0] 41)) :=
    ((((Below.refl _ _).alloc (Nat.le_refl _) _).alloc (by simp) _).alloc (by simp <;> omega) _).alloc (by simp <;> omega) _
  obtain ⟨W0, e0⟩ : ∃ W0, W0 = ((((w.alloc (Obj.cells #[.int .i64 D, v1] 41)).alloc (Obj.cells #[.int .i64 E, v2] 41)).alloc (Obj.cells #[.func (.func g) #[] lb] 129)).alloc (Obj.cells #[.int .i64 0, .slice none 0 0] 41)) := ⟨_, rfl⟩
  have hX : W0.heap.size = w.heap.size + 4 ∧ W0.heap[w.heap.size]? = some (Obj.cells #[.int .i64 D, v1] 41) ∧ W0.heap[w.heap.size + 1]? = some (Obj.cells #[.int .i64 E, v2] 41) ∧
      W0.heap[w.heap.size + 1 + 1]? = some (Obj.cells #[.func (.func g) #[] lb] 129) ∧ W0.heap[w.heap.size + 1 + 1 + 1]? = some (Obj.cells #[.int .i64 0, .slice none 0 0] 41) := by
    rw [e0]
    refine ⟨by simp, ?_, ?_, ?_, ?_⟩
    · rw [Below.heap_alloc _ _ _ (by simp <;> omega), Below.heap_alloc _ _ _ (by simp <;> omega), Below.heap_alloc _ _ _ (by simp)]; exact heap_alloc_new w _
    · rw [Below.heap_alloc _ _ _ (by simp <;> omega), Below.heap_alloc _ _ _ (by simp <;> omega)]
      have := heap_alloc_new (w.alloc (Obj.cells #[.int .i64 D, v1] 41)) (Obj.cells #[.int .i64 E, v2] 41); simpa using this
    · rw [Below.heap_alloc _ _ _ (by simp <;> omega)]
      have := heap_alloc_new ((w.alloc (Obj.cells #[.int .i64 D, v1] 41)).alloc (Obj.cells #[.int .i64 E, v2] 41)) (Obj.cells #[.func (.func g) #[] lb] 129); simpa using this
    · have := heap_alloc_new (((w.alloc (Obj.cells #[.int .i64 D, v1] 41)).alloc (Obj.cells #[.int .i64 E, v2] 41)).alloc (Obj.cells #[.func (.func g) #[] lb] 129)) (Obj.cells #[.int .i64 0, .slice none 0 0] 41); simpa using this
  rw [← e0] at hW0
  have HW0 := Lib.hid hW0
  have HX := Lib.hid hX
  clear hW0 hX
  go_wp2_with fail
  rw [← e0]
  clear e0
  refine (C0.out _ HW0.out).mono ?_
  rintro e w1 ⟨rfl, ew⟩
  rw [ew]
  clear ew
  go_wp2_with fail
  refine (C2.out _).mono ?_
  rintro e W1 ⟨rfl, hb1⟩
  have hb2 : Below W0.heap.size W0 (W1.alloc (Obj.cells #[.int .i64 M, .slice none 0 0] 41)) := hb1.alloc hb1.size _
  have hk2 := heap_alloc_new W1 (Obj.cells #[.int .i64 M, .slice none 0 0] 41)
  have hsz1 := hb1.size
  have hsz2 : (W1.alloc (Obj.cells #[.int .i64 M, .slice none 0 0] 41)).heap.size = W1.heap.size + 1 := by simp
  obtain ⟨s0, s1, s2, s3, _⟩ := fresh2 W1 41 (.int .i64 0) (.slice none 0 0) (.int .i64 M) (.slice none 0 0)
  clear hb1
  go_upto_region 2 with fail
  obtain ⟨W2, e2⟩ : ∃ W2, W2 = W1.alloc (Obj.cells #[.int .i64 M, .slice none 0 0] 41) := ⟨_, rfl⟩
  rw [← e2] at hb2 hk2 hsz2 ⊢
  clear s0 s1 s2 s3 e2
  obtain ⟨BL, eBL⟩ : ∃ BL, W1.heap.size = BL := ⟨_, rfl⟩
  rw [eBL] at hk2 hsz1 hsz2 ⊢
  clear eBL
  have hx := HX.out
  have p1 : W2.heap[w.heap.size]? = some (Obj.cells #[.int .i64 D, v1] 41) := by rw [hb2.block _ (by omega)]; exact hx.2.1
  have p2 : W2.heap[w.heap.size + 1]? = some (Obj.cells #[.int .i64 E, v2] 41) := by rw [hb2.block _ (by omega)]; exact hx.2.2.1
  have p3 : W2.heap[w.heap.size + 1 + 1]? = some (Obj.cells #[.func (.func g) #[] lb] 129) := by rw [hb2.block _ (by omega)]; exact hx.2.2.2.1
  have p4 : W2.heap[w.heap.size + 1 + 1 + 1]? = some (Obj.cells #[.int .i64 0, .slice none 0 0] 41) := by rw [hb2.block _ (by omega)]; exact hx.2.2.2.2
  have hs0 := hx.1
  rw [hs0] at hsz1
  have hB2 := Lib.hid (HW0.out.trans (hb2.mono (by omega)))
  have d1 : W2.cell? ⟨w.heap.size, 0, none⟩ = some (.int .i64 D) := by rw [cell_of_row _ _ 0 _ 41 (0, 0) p1]; rfl
  have d2 : W2.cell? ⟨w.heap.size, 1, none⟩ = some v1 := by rw [cell_of_row _ _ 1 _ 41 (0, 0) p1]; rfl
  have d3 : W2.cell? ⟨w.heap.size + 1, 0, none⟩ = some (.int .i64 E) := by rw [cell_of_row _ _ 0 _ 41 (0, 0) p2]; rfl
  have d4 : W2.cell? ⟨w.heap.size + 1, 1, none⟩ = some v2 := by rw [cell_of_row _ _ 1 _ 41 (0, 0) p2]; rfl
  have P := Lib.hid (And.intro hk2 (And.intro hsz2 (And.intro p3 p4)))
  clear hx hk2 hsz2 p1 p2 p3 p4 hb2 hs0
  go_wp2_with fail
  refine (C1.out _).mono ?_
  rintro e W3 ⟨rfl, e3⟩
  go_wp2_with fail
  rw [← e3]
  have hb3 : Below W2.heap.size W2 W3 := by rw [e3]; exact ((Below.refl _ _).alloc (Nat.le_refl _) _).alloc (by simp) _
  have hsz3 : W3.heap.size = W2.heap.size + 2 := by rw [e3]; simp
  have hk1 : W3.heap[W2.heap.size]? = some (Obj.cells #[.int .i64 D, v1] 41) := by rw [e3, Below.heap_alloc _ _ _ (by simp)]; exact heap_alloc_new W2 _
  have hk2 : W3.heap[W2.heap.size + 1]? = some (Obj.cells #[.int .i64 E, v2] 41) := by
    rw [e3]; have := heap_alloc_new (W2.alloc (Obj.cells #[.int .i64 D, v1] 41)) (Obj.cells #[.int .i64 E, v2] 41); simpa using this
  clear e3 d1 d2 d3 d4
  obtain ⟨hkL, hszL, hkF, hkR⟩ := P.out
  have hb3w : Below w.heap.size w W3 := hB2.out.trans (hb3.mono hB2.out.size)
  have hkL3 : W3.heap[BL]? = some (Obj.cells #[.int .i64 M, .slice none 0 0] 41) := by rw [hb3.block _ (by omega)]; exact hkL
  have hkF3 : W3.heap[w.heap.size + 1 + 1]? = some (Obj.cells #[.func (.func g) #[] lb] 129) := by rw [hb3.block _ (by omega)]; exact hkF
  have hkR3 : W3.heap[w.heap.size + 1 + 1 + 1]? = some (Obj.cells #[.int .i64 0, .slice none 0 0] 41) := by rw [hb3.block _ (by omega)]; exact hkR
  clear hkL hkF hkR
  obtain ⟨B1, eB1⟩ : ∃ B1, W2.heap.size = B1 := ⟨_, rfl⟩
  rw [eB1] at hb3 hsz3 hk1 hk2 hszL ⊢
  have hB1 := Lib.hid (And.intro hszL (And.intro hsz3 hsz1))
  clear eB1 hszL hsz3 hb3
  refine (wpIn_wide (n := 5)).1 ?_
  refine wpIn_rangeFunc_ownH rfl (by omega) (gf := 73) (lb := #[.pointer (some ⟨B1, 0, none⟩), .pointer (some ⟨B1 + 1, 0, none⟩)]) rfl trivial (enters_of Try.func73 (by kernel_rfl) rfl)
    (both_stops 4 (by omega) B1 (B1 + 1) w.heap.size D E v1 v2 ps qs W3 hb3w.size hk1 hk2 (R1.out.below hb3w) (R2.out.below hb3w)) (fun h k => kpB_t h k) (kpB_b hb3w.size (by have := hB1.out; omega) (by have := hB1.out; omega)) (Below.refl _ _) (fun _ => rfl)
    (fun pre W => (∃ v, W.heap[BL]? = some (Obj.cells #[.int .i64 M, v] 41) ∧ W.ownsRow W3.heap.size 80 2 v (Lab.mk f M pre).length (F (Lab.mk f M pre))) ∧ (W.heap[w.heap.size + 1 + 1]? = some (Obj.cells #[.func (.func g) #[] lb] 129) ∧ (W.heap[w.heap.size + 1 + 1 + 1]? = some (Obj.cells #[.int .i64 0, .slice none 0 0] 41) ∧ Below w.heap.size w W)))
    (fun _ _ _ => False)
    (OwnFrom.and (Own.from (own_lab BL W3.heap.size 80 M (fun pre => (Lab.mk f M pre).length) (fun pre => F (Lab.mk f M pre))) _) (OwnFrom.and (Own.from (blk_own _ (fun _ => _) (fun _ => rfl)) _) (OwnFrom.and (Own.from (blk_own _ (fun _ => _) (fun _ => rfl)) _) (ownFrom_below (Nat.le_refl _) hb3w.size))))
    (fun _ _ _ _ _ hs _ _ => hs)
    ⟨⟨_, hkL3, World.ownsRow_nil _ _ _ _⟩, hkF3, hkR3, hb3w⟩
    (fun t a' W => ∃ Bx, W.heap[Bx]? = some (Obj.cells #[.int .i64 t.2.1, .int .i64 t.2.2] 121) ∧ a' = { tmps := #[.agg #[.int .i64 D, v1], .agg #[.int .i64 E, v2], .func (.func g) #[] lb, .pointer (some ⟨w.heap.size, 0, none⟩), .pointer (some ⟨w.heap.size + 1, 0, none⟩), .pointer (some ⟨w.heap.size + 1 + 1, 0, none⟩), .pointer (some ⟨w.heap.size + 1 + 1 + 1, 0, none⟩),
      .pointer (some ⟨BL, 0, none⟩), .int .u32 (t.1 : Int), .pointer (some ⟨Bx, 0, none⟩), undef, .func (.func g) #[] lb, .pointer (some ⟨w.heap.size, 0, none⟩), .int .i64 D, .pointer (some ⟨w.heap.size + 1, 0, none⟩), .int .i64 E, .int .i64 M,
      .agg #[.int .i64 M, .slice none 0 0], .agg #[.int .i64 D, v1], .agg #[.int .i64 E, v2], .func (.func 73) #[] #[.pointer (some ⟨B1, 0, none⟩), .pointer (some ⟨B1 + 1, 0, none⟩)],
      .int .u32 (t.1 : Int), .agg #[.int .i64 t.2.1, .int .i64 t.2.2], undef, undef, undef, undef, undef, undef, undef, undef, undef, undef, undef, undef, undef, undef, undef, undef, undef, undef, undef], defers := [] })
    ?own ?assign ?body ?done ?stop
  case own =>
    rintro t a' _ X Y row ⟨Bx, hx, rfl⟩ hg hr
    exact ⟨Bx, (hg.block Bx (Array.getElem?_eq_some_iff.1 hx).1 (fun e => by obtain ⟨_, o', ho', hc'⟩ := hr Bx e.symm; rw [hx] at ho'; cases ho'; cases hc')).trans hx, rfl⟩
  case assign =>
    rintro l pre t W K hi hK
    obtain ⟨c, x, y⟩ := t
    dsimp only [encs]
    obtain ⟨s0, s1, s2, s3, s4⟩ := fresh2 W 121 (.int .i64 0) (.int .i64 0) (.int .i64 x) (.int .i64 y)
    have hb : Below W.heap.size W (W.alloc (Obj.cells #[.int .i64 x, .int .i64 y] 121)) := (Below.refl _ _).alloc (Nat.le_refl _) _
    have h5 := heap_alloc_new W (Obj.cells #[.int .i64 x, .int .i64 y] 121)
    obtain ⟨⟨v, hv, hrow⟩, hi2, hi3, hi4⟩ := hi
    have hfin := Lib.hid fun (a' : Act) ha => hK a' (W.alloc (Obj.cells #[.int .i64 x, .int .i64 y] 121)) ((KeepsOthers.alloc _ _).from _) ⟨hb.mono hi4.size, fun o ho => by rw [hb.block _ (Array.getElem?_eq_some_iff.1 ho).1]; exact ho, fun o ho => by rw [hb.block _ (Array.getElem?_eq_some_iff.1 ho).1]; exact ho⟩
      ⟨⟨v, by rw [hb.block _ (Array.getElem?_eq_some_iff.1 hv).1]; exact hv, hrow.alloc _⟩, by rw [hb.block _ (Array.getElem?_eq_some_iff.1 hi2).1]; exact hi2, by rw [hb.block _ (Array.getElem?_eq_some_iff.1 hi3).1]; exact hi3, hi4.trans (hb.mono hi4.size)⟩ ⟨W.heap.size, h5, ha⟩
    clear hK hrow hv
    gi_wp2
    exact hfin.out _ rfl
  case body =>
    rintro l pre ⟨c, x, y⟩ a' W hl hrec ⟨⟨v, hv, hrow⟩, hi2, hi3, hi4⟩ ⟨Bx, hx, rfl⟩ hlt
    have c0 : W.cell? ⟨BL, 0, none⟩ = some (.int .i64 M) := by rw [cell_of_row _ _ 0 _ 41 (0, 0) hv]; rfl
    have c1 : W.cell? ⟨BL, 1, none⟩ = some v := by rw [cell_of_row _ _ 1 _ 41 (0, 0) hv]; rfl
    have f0 : W.cell? ⟨w.heap.size + 1 + 1, 0, none⟩ = some (.func (.func g) #[] lb) := by rw [cell_of_row _ _ 0 _ 129 (0, 0) hi2]; rfl
    have x0 : W.cell? ⟨Bx, 0, none⟩ = some (.int .i64 x) := by rw [cell_of_row _ _ 0 _ 121 (0, 0) hx]; rfl
    have x1 : W.cell? ⟨Bx, 1, none⟩ = some (.int .i64 y) := by rw [cell_of_row _ _ 1 _ 121 (0, 0) hx]; rfl
    obtain ⟨r, er⟩ : ∃ r, f x y = r := ⟨_, rfl⟩
    have C3 := Lib.hid (er ▸ HF.out x y W hi4)
    have ER := Lib.hid er
    clear er
    by_cases hr : r = M
    · have hm : Lab.mk f M (pre ++ [(c, x, y)]) = Lab.mk f M pre := Lab.mk_snoc_miss (by show f x y = M; rw [ER.out, hr])
      have HM := Lib.hid hm
      have HI := Lib.hid (And.intro hv (And.intro hrow (And.intro hi2 (And.intro hi3 hi4))))
      clear hm hv hrow hi2 hi3 hi4
      subst hr
      gi_wp2_with fail
      refine ⟨trivial, ?_⟩
      refine (CallsIn.inRound l (callsIn_wide.2 C3.out)).mono ?_
      rintro e w' ⟨rfl, ew⟩
      rw [ew]
      clear ew
      gi_wp2_with fail
      refine ⟨KeepsFrom.refl _ _, ⟨Below.refl _ _, fun o h => h, fun o h => h⟩, ?_⟩
      dsimp only
      rw [HM.out]
      exact ⟨⟨v, HI.out.1, HI.out.2.1⟩, HI.out.2.2⟩
    · have hm : Lab.mk f M (pre ++ [(c, x, y)]) = Lab.mk f M pre ++ [(c, r)] := by rw [← ER.out]; exact Lab.mk_snoc_hit (by show f x y ≠ M; rw [ER.out]; exact hr)
      have hlen : (Lab.mk f M pre).length ≤ 8796093022207 := by have h1 := Lab.mk_len f M pre; have h2 := Lab.zipm_len D E ps qs; have := HN.out; omega
      have htf : (r != M) = true := by rw [bne_iff_ne]; exact hr
      obtain ⟨k, ek⟩ : ∃ k, (Lab.mk f M pre).length = k := ⟨_, rfl⟩
      obtain ⟨xs, exs⟩ : ∃ xs, F (Lab.mk f M pre) = xs := ⟨_, rfl⟩
      rw [ek, exs] at hrow
      rw [ek] at hlen
      have HM := Lib.hid hm
      have EK := Lib.hid (And.intro ek exs)
      have HV := Lib.hid hv
      have HR := Lib.hid hrow
      have HI := Lib.hid (And.intro hi2 (And.intro hi3 hi4))
      have hws : W3.heap.size ≤ W.heap.size := by obtain ⟨_, hr⟩ := hrec; have := (Array.getElem?_eq_some_iff.1 hr).1; omega
      clear hm hv hrow hi2 hi3 hi4 ek exs hr
      gi_wp2_with fail
      refine ⟨trivial, ?_⟩
      refine (CallsIn.inRound l (callsIn_wide.2 C3.out)).mono ?_
      rintro e w' ⟨rfl, ew⟩
      rw [ew]
      clear ew
      gi_wp2_with (gi_at_builtin; refine wpListIn_append_own _ rfl _ _ 39 rfl W3.heap.size 80 i0 (.agg #[.int .u32 0, .int .i64 0]) 2 16 Try.underlying39 hi hz0 hz1 hz2 rfl (by decide) _ _ _ rfl (HR.out.alloc _) ⟨W.heap.size, 0, none⟩ 1 1 [.int .u32 (c : Int), .int .i64 r] rfl rfl (cell_two_new _ _ _ _) (by simp [Value.oneCell']) (by unfold maxLen; omega) (by omega) (by simp; omega) ?_)
      intro v' w1 hown' hgrow _
      obtain ⟨g', cap', rfl, _, _⟩ := hown'.form (by omega)
      have hkeep : ∀ j, j < W3.heap.size → w1.heap[j]? = W.heap[j]? := fun j hj => by
        rw [hgrow.block j (by simp; omega) (fun e => by have := (HR.out.lt j e.symm).1; omega)]
        exact Below.heap_alloc _ _ _ (by omega)
      have hbl : BL < W3.heap.size := by have := hB1.out; omega
      have hkL : w1.heap[BL]? = some (Obj.cells #[.int .i64 M, v] 41) := by rw [hkeep BL hbl]; exact HV.out
      have k1 : w1.cell? ⟨BL, 1, none⟩ = some v := by rw [cell_of_row _ _ 1 _ 41 (0, 0) hkL]; rfl
      have k2 : w1.frozen? ⟨BL, 1, none⟩ = false := frozen_of_row _ _ 1 _ 41 hkL
      have HKE := Lib.hid hkeep
      have HKL := Lib.hid hkL
      have HOW := Lib.hid hown'
      have HGR := Lib.hid hgrow
      clear hkeep hkL hown' hgrow hbl
      gi_wp2_with fail
      have hBL : w.heap.size ≤ BL ∧ BL < W3.heap.size ∧ B1 ≠ BL ∧ B1 + 1 ≠ BL ∧ B1 + 1 < W3.heap.size ∧ w.heap.size + 1 + 1 + 1 < BL := by have := hB1.out; omega
      obtain ⟨b1, b2, b3, b4, b5, b6⟩ := hBL
      have hN : ∀ j, j < W3.heap.size → j ≠ BL → (w1.setCell ⟨BL, 1, none⟩ (.slice (some ⟨g', 0, none⟩) (k + 1) cap')).heap[j]? = W.heap[j]? := fun j hj hne => by
        rw [heap_setCell_other _ _ _ _ (by simpa using hne)]; exact HKE.out j hj
      have hg' : W3.heap.size ≤ g' := (HOW.out.lt g' rfl).1
      refine ⟨(((KeepsOthers.alloc W _).trans (KeepsOthers.of_grownBy HGR.out fun j o ej hj => ?_)).trans (KeepsOthers.setCell _ _ _)).from _,
        ⟨(((Below.refl w.heap.size W).alloc (by have := HI.out.2.2.size; omega) _).grown HGR.out (by have := HI.out.2.2.size; simp; omega) (fun j ej => by have := (HR.out.lt j ej).1; omega)).setCell (p := ⟨BL, 1, none⟩) b1 _,
          fun o ho => by rw [hN B1 (by omega) b3]; exact ho, fun o ho => by rw [hN (B1 + 1) b5 b4]; exact ho⟩, ?_⟩
      · rcases (HR.out.alloc (Obj.cells #[.int .u32 (c : Int), .int .i64 r] 80)).2 with ⟨rfl, _⟩ | ⟨gx, capx, cur, rfl, _, hgb, _⟩
        · simp [Value.ownBlock] at ej
        · obtain rfl : gx = j := by simpa [Value.ownBlock] using ej
          rw [hgb] at hj; cases hj; rfl
      · dsimp only
        have hfinal := (((Below.refl w.heap.size W).alloc (by have := HI.out.2.2.size; omega) _).grown HGR.out (by have := HI.out.2.2.size; simp; omega) (fun j ej => by have := (HR.out.lt j ej).1; omega)).setCell (p := ⟨BL, 1, none⟩) b1 (.slice (some ⟨g', 0, none⟩) (k + 1) cap')
        refine ⟨⟨.slice (some ⟨g', 0, none⟩) (k + 1) cap', ?_, ?_⟩, by rw [hN _ (by omega) (by omega)]; exact HI.out.1, by rw [hN _ (by omega) (by omega)]; exact HI.out.2.1, HI.out.2.2.trans hfinal⟩
        · have := heap_setCell_same w1 BL 1 _ 41 (.slice (some ⟨g', 0, none⟩) (k + 1) cap') HKL.out
          simpa using this
        · rw [HM.out, F_snoc, EK.out.2, List.length_append, EK.out.1]
          exact owns_set HOW.out ⟨BL, 1, none⟩ _ (by simp [Value.ownBlock]; omega)
  case done =>
    rintro D' ys W hD rfl ⟨⟨v, hv, hrow⟩, hi2, hi3, hi4⟩ hK
    have hBL : w.heap.size ≤ BL ∧ BL < W3.heap.size ∧ w.heap.size + 1 + 1 + 1 < BL := by have := hB1.out; omega
    obtain ⟨b1, b2, b3⟩ := hBL
    have hform : v = .slice none 0 0 ∨ ∃ g' n' cap', v = .slice (some ⟨g', 0, none⟩) n' cap' ∧ W3.heap.size ≤ g' := by
      rcases hrow.2 with ⟨h, _⟩ | ⟨g', cap', cur, h, hg, _⟩
      · exact .inl h
      · exact .inr ⟨_, _, _, h, hg⟩
    have hne : some (w.heap.size + 1 + 1 + 1) ≠ v.ownBlock := by intro e; have := (hrow.lt _ e.symm).1; omega
    obtain ⟨c0, _, _, _, _, c1⟩ := old2 W BL 41 _ _ (.int .i64 M) v hv
    obtain ⟨s0, s1, s2, s3, s4, _⟩ := old2 W (w.heap.size + 1 + 1 + 1) 41 _ _ (.int .i64 M) v hi3
    obtain ⟨Z, eZ⟩ : ∃ Z, Lab.mk f M (Lab.zipm D E ps qs) = Z := ⟨_, rfl⟩
    rw [eZ] at hrow
    have EZ := Lib.hid eZ
    clear eZ
    have hfin : ((W.setCell ⟨w.heap.size + 1 + 1 + 1, 0, none⟩ (.int .i64 M)).setCell ⟨w.heap.size + 1 + 1 + 1, 1, none⟩ v).ownsRow w.heap.size 80 2 v Z.length (F Z) :=
      owns_mono (owns_set (owns_set hrow _ _ hne) _ _ hne) hb3w.size
    have hbf : Below w.heap.size w ((W.setCell ⟨w.heap.size + 1 + 1 + 1, 0, none⟩ (.int .i64 M)).setCell ⟨w.heap.size + 1 + 1 + 1, 1, none⟩ v) := (hi4.setCell (by simp <;> omega) _).setCell (by simp <;> omega) _
    have hKf := ((KeepsOthers.setCell W ⟨w.heap.size + 1 + 1 + 1, 0, none⟩ (.int .i64 M)).trans (KeepsOthers.setCell _ ⟨w.heap.size + 1 + 1 + 1, 1, none⟩ v)).same D' _ hK rfl
    have HFIN := Lib.hid hfin
    have HBF := Lib.hid hbf
    have HKF := Lib.hid hKf
    have S4 := Lib.hid s4
    have hD' : w.heap.size + 1 + 1 + 1 ≠ D' ∧ w.heap.size ≤ D' := by have := hb3w.size; omega
    clear hfin hbf hKf s4 hrow hv hi3 hK hne
    rcases hform with rfl | ⟨g', n', cap', rfl, _⟩
    all_goals
      gi_wp2
      go_wp2_with fail
      refine ⟨by simp, .inl ⟨_, _, rfl, run_takeDeferred HKF.out, ?_⟩⟩
      refine ⟨_, results_cell_row (by rfl) _ _ (w.heap.size + 1 + 1 + 1) 41 _ (0, 0) _ (by rfl) ((World.putObj_heap_other hD'.1).trans S4.out) Try.underlying41 rfl info24, _, rfl, fun m hm => ?_, HBF.out.trans (belowK_b (w := w) (Nat.le_refl _) _ D' _ _ hD'.2 HKF.out rfl rfl)⟩
      rw [hm, EZ.out]
      exact ownsRow_putObj HFIN.out _ HKF.out rfl
  case stop =>
    rintro D' c pre W hD hpre h hK
    exact h.elim
end Go.Proofs.Ytmadldgajjgbmaa
-- with Si
namespace Go.Proofs.Ytmadldgajjgbmaa
open Go.RowKit Go.Shelf
set_option linter.unusedVariables false
set_option linter.unusedSimpArgs false

/-- A label of level M for all but the pairs Z, in memory of the call's own. -/
def Gives (w : World) (M : Int) (Z : List (Nat × Int)) (e : Ending) (w' : World) : Prop := ∃ v, e = .returned (.agg #[.int .i64 M, v]) ∧ w'.ownsRow w.heap.size 80 2 v Z.length (F Z) ∧ Below w.heap.size w w'
theorem form2 {w : World} {base e k : Nat} {v : Value} {xs : List Value} (h : w.ownsRow base e 2 v k xs) : v = .slice none 0 0 ∨ ∃ g n c, v = .slice (some ⟨g, 0, none⟩) n c := by
  rcases h.2 with ⟨h, _⟩ | ⟨g', cap', cur, h, hg, _⟩
  · exact .inl h
  · exact .inr ⟨_, _, _, h⟩
/-- What is stored into the result's own variable is handed on. -/
theorem gives_stored {w W0 w1 : World} {R : Nat} {M : Int} {Z : List (Nat × Int)} {v : Value} (hR : w.heap.size ≤ R) (hR0 : R < W0.heap.size) (hb : Below w.heap.size w W0) (h1 : w1.ownsRow W0.heap.size 80 2 v Z.length (F Z)) (hb1 : Below W0.heap.size W0 w1) :
    ((w1.setCell ⟨R, 0, none⟩ (.int .i64 M)).setCell ⟨R, 1, none⟩ v).ownsRow w.heap.size 80 2 v Z.length (F Z) ∧ Below w.heap.size w ((w1.setCell ⟨R, 0, none⟩ (.int .i64 M)).setCell ⟨R, 1, none⟩ v) := by
  have hne : some R ≠ v.ownBlock := by intro e; have := (h1.lt _ e.symm).1; omega
  exact ⟨owns_mono (owns_set (owns_set h1 _ _ hne) _ _ hne) hb.size, ((hb.trans (hb1.mono hb.size)).setCell (by simp <;> omega) _).setCell (by simp <;> omega) _⟩
theorem picks_turn (B1 B2 : Nat) (a b : Int) (w : World) (h1 : w.heap[B1]? = some (Obj.cells #[.int .i64 a] 3)) (h2 : w.heap[B2]? = some (Obj.cells #[.int .i64 b] 3)) :
    Picks 76 #[.pointer (some ⟨B1, 0, none⟩), .pointer (some ⟨B2, 0, none⟩)] (fun x _ => Lab.turn a b x) w := by
  intro x y W hb
  show Calls Try.prog 76 #[.int .i64 x, .int .i64 y, .pointer (some ⟨B1, 0, none⟩), .pointer (some ⟨B2, 0, none⟩)] W fun e W' => e = .returned (.int .i64 (Lab.turn a b x)) ∧ W' = W
  have k1 : W.heap[B1]? = some (Obj.cells #[.int .i64 a] 3) := by rw [hb.block _ (Array.getElem?_eq_some_iff.1 h1).1]; exact h1
  have k2 : W.heap[B2]? = some (Obj.cells #[.int .i64 b] 3) := by rw [hb.block _ (Array.getElem?_eq_some_iff.1 h2).1]; exact h2
  have c1 : W.cell? ⟨B1, 0, none⟩ = some (.int .i64 a) := by rw [cell_of_row _ _ 0 _ 3 (0, 0) k1]; rfl
  have c2 : W.cell? ⟨B2, 0, none⟩ = some (.int .i64 b) := by rw [cell_of_row _ _ 0 _ 3 (0, 0) k2]; rfl
  obtain ⟨m, em⟩ : ∃ m, Lab.turn a b x = m := ⟨_, rfl⟩
  rw [em]
  have EM := Lib.hid em
  clear em h1 h2 k1 k2 hb
  by_cases e : x = a
  · have tf : (x == a) = true := by rw [beq_iff_eq]; exact e
    have HM := Lib.hid (show m = b by rw [← EM.out, Lab.turn, if_pos e])
    clear e
    go_enter Try.func76, Try.ntmps76
    go_wp2
    go_ret
    exact ⟨by rw [HM.out]; rfl, rfl⟩
  · have tf : (x == a) = false := by rw [beq_eq_false_iff_ne]; exact e
    have HM := Lib.hid (show m = x by rw [← EM.out, Lab.turn, if_neg e])
    clear e
    go_enter Try.func76, Try.ntmps76
    go_wp2
    go_ret
    exact ⟨by rw [HM.out]; rfl, rfl⟩
set_option maxHeartbeats 1000000 in
theorem replace_any (D a b : Int) (v1 : Value) (ps : List (Nat × Int)) (w : World) (hn : ps.length + ps.length ≤ 8796093022207) (r1 : RC w.heap.size w v1 ps) :
    Calls Try.prog 65 #[.agg #[.int .i64 D, v1], .int .i64 a, .int .i64 b] w (Gives w (Lab.turn a b D) (Lab.mk (fun x _ => Lab.turn a b x) (Lab.turn a b D) (Lab.zipm D D ps ps))) := by
  have hb0 : Below w.heap.size w ((((w.alloc (Obj.cells #[.int .i64 D, v1] 41)).alloc (Obj.cells #[.int .i64 a] 3)).alloc (Obj.cells #[.int .i64 b] 3)).alloc (Obj.cells #[.int .i64 0, .slice none 0 0] 41)) := ((((Below.refl _ _).alloc (by exact Nat.le_refl _) _).alloc (by simp <;> omega) _).alloc (by simp <;> omega) _).alloc (by simp <;> omega) _
  have hx : ((((w.alloc (Obj.cells #[.int .i64 D, v1] 41)).alloc (Obj.cells #[.int .i64 a] 3)).alloc (Obj.cells #[.int .i64 b] 3)).alloc (Obj.cells #[.int .i64 0, .slice none 0 0] 41)).heap.size = w.heap.size + 4 ∧ ((((w.alloc (Obj.cells #[.int .i64 D, v1] 41)).alloc (Obj.cells #[.int .i64 a] 3)).alloc (Obj.cells #[.int .i64 b] 3)).alloc (Obj.cells #[.int .i64 0, .slice none 0 0] 41)).heap[w.heap.size]? = some (Obj.cells #[.int .i64 D, v1] 41) ∧ ((((w.alloc (Obj.cells #[.int .i64 D, v1] 41)).alloc (Obj.cells #[.int .i64 a] 3)).alloc (Obj.cells #[.int .i64 b] 3)).alloc (Obj.cells #[.int .i64 0, .slice none 0 0] 41)).heap[w.heap.size + 1]? = some (Obj.cells #[.int .i64 a] 3) ∧ ((((w.alloc (Obj.cells #[.int .i64 D, v1] 41)).alloc (Obj.cells #[.int .i64 a] 3)).alloc (Obj.cells #[.int .i64 b] 3)).alloc (Obj.cells #[.int .i64 0, .slice none 0 0] 41)).heap[w.heap.size + 1 + 1]? = some (Obj.cells #[.int .i64 b] 3) ∧ ((((w.alloc (Obj.cells #[.int .i64 D, v1] 41)).alloc (Obj.cells #[.int .i64 a] 3)).alloc (Obj.cells #[.int .i64 b] 3)).alloc (Obj.cells #[.int .i64 0, .slice none 0 0] 41)).heap[w.heap.size + 1 + 1 + 1]? = some (Obj.cells #[.int .i64 0, .slice none 0 0] 41) := by
    refine ⟨by simp <;> omega, ?_, ?_, ?_, ?_⟩
    · rw [Below.heap_alloc _ _ _ (by simp <;> omega), Below.heap_alloc _ _ _ (by simp <;> omega), Below.heap_alloc _ _ _ (by simp <;> omega)]; have := heap_alloc_new w (Obj.cells #[.int .i64 D, v1] 41); simpa using this
    · rw [Below.heap_alloc _ _ _ (by simp <;> omega), Below.heap_alloc _ _ _ (by simp <;> omega)]; have := heap_alloc_new (w.alloc (Obj.cells #[.int .i64 D, v1] 41)) (Obj.cells #[.int .i64 a] 3); simpa using this
    · rw [Below.heap_alloc _ _ _ (by simp <;> omega)]; have := heap_alloc_new ((w.alloc (Obj.cells #[.int .i64 D, v1] 41)).alloc (Obj.cells #[.int .i64 a] 3)) (Obj.cells #[.int .i64 b] 3); simpa using this
    · have := heap_alloc_new (((w.alloc (Obj.cells #[.int .i64 D, v1] 41)).alloc (Obj.cells #[.int .i64 a] 3)).alloc (Obj.cells #[.int .i64 b] 3)) (Obj.cells #[.int .i64 0, .slice none 0 0] 41); simpa using this
  obtain ⟨W0, e0⟩ : ∃ W0, W0 = ((((w.alloc (Obj.cells #[.int .i64 D, v1] 41)).alloc (Obj.cells #[.int .i64 a] 3)).alloc (Obj.cells #[.int .i64 b] 3)).alloc (Obj.cells #[.int .i64 0, .slice none 0 0] 41)) := ⟨_, rfl⟩
  rw [← e0] at hb0 hx
  obtain ⟨hs, x0, x1, x2, x3⟩ := hx
  have d00 : W0.cell? ⟨w.heap.size, 0, none⟩ = some (.int .i64 D) := by rw [cell_of_row _ _ 0 _ 41 (0, 0) x0]; rfl
  have d01 : W0.cell? ⟨w.heap.size, 1, none⟩ = some (v1) := by rw [cell_of_row _ _ 1 _ 41 (0, 0) x0]; rfl
  have d10 : W0.cell? ⟨w.heap.size + 1, 0, none⟩ = some (.int .i64 a) := by rw [cell_of_row _ _ 0 _ 3 (0, 0) x1]; rfl
  have d20 : W0.cell? ⟨w.heap.size + 1 + 1, 0, none⟩ = some (.int .i64 b) := by rw [cell_of_row _ _ 0 _ 3 (0, 0) x2]; rfl
  obtain ⟨Z, eZ⟩ : ∃ Z, Lab.mk (fun x _ => Lab.turn a b x) (Lab.turn a b D) (Lab.zipm D D ps ps) = Z := ⟨_, rfl⟩
  obtain ⟨M, eM⟩ : ∃ M, Lab.turn a b D = M := ⟨_, rfl⟩
  have C : Hid (Calls Try.prog 75 #[.agg #[.int .i64 D, v1], .agg #[.int .i64 D, v1], .func (.func 76) #[] #[.pointer (some ⟨w.heap.size + 1, 0, none⟩), .pointer (some ⟨w.heap.size + 1 + 1, 0, none⟩)]] W0 (Gives W0 M Z)) := Lib.hid ((pmerge_any 76 #[.pointer (some ⟨w.heap.size + 1, 0, none⟩), .pointer (some ⟨w.heap.size + 1 + 1, 0, none⟩)] (fun x _ => Lab.turn a b x) D D v1 v1 ps ps W0 (enters_of Try.func76 (by kernel_rfl) rfl) (picks_turn _ _ a b W0 x1 x2) hn (r1.below hb0 |>.mono hb0.size) (r1.below hb0 |>.mono hb0.size)).mono fun e w' ⟨v, h1, h2, h3⟩ => ⟨v, by rw [h1, ← eM], h2 Z (by rw [← eZ]), h3⟩)
  clear hn r1
  rw [eZ, eM]
  clear eZ eM
  have XR := Lib.hid x3
  have HB := Lib.hid hb0
  have HS := Lib.hid hs
  clear hs hb0 x0 x1 x2 x3
  go_enter Try.func65, Try.ntmps65
  go_wp2_with fail
  rw [← e0]
  clear e0
  go_wp2_with fail
  refine C.out.mono ?_
  rintro e w1 ⟨v, rfl, hown, hb1⟩
  obtain ⟨s0, s1, s2, s3, s4, _⟩ := old2 w1 (w.heap.size + 1 + 1 + 1) 41 _ _ (.int .i64 M) v (by rw [hb1.block _ (by rw [HS.out]; omega)]; exact XR.out)
  have G := Lib.hid (gives_stored (R := w.heap.size + 1 + 1 + 1) (M := M) (by omega) (by rw [HS.out]; omega) HB.out hown hb1)
  have S4 := Lib.hid s4
  have hform := form2 hown
  clear s4 hown hb1 d00 d01 d10 d20
  rcases hform with rfl | ⟨g', n', c', rfl⟩
  all_goals
    go_wp2_with fail
    refine bodyPost_ret (results_cell_row (by rfl) _ _ (w.heap.size + 1 + 1 + 1) 41 _ (0, 0) _ (by rfl) S4.out Try.underlying41 rfl info24) rfl ⟨_, rfl, G.out⟩
set_option maxHeartbeats 1000000 in
theorem prest_any (D : Int) (v1 : Value) (ps : List (Nat × Int)) (w : World) (hn : ps.length + ps.length ≤ 8796093022207) (r1 : RC w.heap.size w v1 ps) :
    Calls Try.prog 54 #[.agg #[.int .i64 D, v1]] w (Gives w (Lab.turn 0 2 D) (Lab.mk (fun x _ => Lab.turn 0 2 x) (Lab.turn 0 2 D) (Lab.zipm D D ps ps))) := by
  have hb0 : Below w.heap.size w ((w.alloc (Obj.cells #[.int .i64 D, v1] 41)).alloc (Obj.cells #[.int .i64 0, .slice none 0 0] 41)) := ((Below.refl _ _).alloc (by exact Nat.le_refl _) _).alloc (by simp <;> omega) _
  have hx : ((w.alloc (Obj.cells #[.int .i64 D, v1] 41)).alloc (Obj.cells #[.int .i64 0, .slice none 0 0] 41)).heap.size = w.heap.size + 2 ∧ ((w.alloc (Obj.cells #[.int .i64 D, v1] 41)).alloc (Obj.cells #[.int .i64 0, .slice none 0 0] 41)).heap[w.heap.size]? = some (Obj.cells #[.int .i64 D, v1] 41) ∧ ((w.alloc (Obj.cells #[.int .i64 D, v1] 41)).alloc (Obj.cells #[.int .i64 0, .slice none 0 0] 41)).heap[w.heap.size + 1]? = some (Obj.cells #[.int .i64 0, .slice none 0 0] 41) := by
    refine ⟨by simp <;> omega, ?_, ?_⟩
    · rw [Below.heap_alloc _ _ _ (by simp <;> omega)]; have := heap_alloc_new w (Obj.cells #[.int .i64 D, v1] 41); simpa using this
    · have := heap_alloc_new (w.alloc (Obj.cells #[.int .i64 D, v1] 41)) (Obj.cells #[.int .i64 0, .slice none 0 0] 41); simpa using this
  obtain ⟨W0, e0⟩ : ∃ W0, W0 = ((w.alloc (Obj.cells #[.int .i64 D, v1] 41)).alloc (Obj.cells #[.int .i64 0, .slice none 0 0] 41)) := ⟨_, rfl⟩
  rw [← e0] at hb0 hx
  obtain ⟨hs, x0, x1⟩ := hx
  have d00 : W0.cell? ⟨w.heap.size, 0, none⟩ = some (.int .i64 D) := by rw [cell_of_row _ _ 0 _ 41 (0, 0) x0]; rfl
  have d01 : W0.cell? ⟨w.heap.size, 1, none⟩ = some (v1) := by rw [cell_of_row _ _ 1 _ 41 (0, 0) x0]; rfl
  obtain ⟨Z, eZ⟩ : ∃ Z, Lab.mk (fun x _ => Lab.turn 0 2 x) (Lab.turn 0 2 D) (Lab.zipm D D ps ps) = Z := ⟨_, rfl⟩
  obtain ⟨M, eM⟩ : ∃ M, Lab.turn 0 2 D = M := ⟨_, rfl⟩
  have C : Hid (Calls Try.prog 65 #[.agg #[.int .i64 D, v1], .int .i64 0, .int .i64 2] W0 (Gives W0 M Z)) := Lib.hid (by rw [← eM, ← eZ]; exact replace_any D 0 2 v1 ps W0 hn (r1.below hb0 |>.mono hb0.size))
  clear hn r1
  rw [eZ, eM]
  clear eZ eM
  have XR := Lib.hid x1
  have HB := Lib.hid hb0
  have HS := Lib.hid hs
  clear hs hb0 x0 x1
  go_enter Try.func54, Try.ntmps54
  go_wp2_with fail
  rw [← e0]
  clear e0
  go_wp2_with fail
  refine C.out.mono ?_
  rintro e w1 ⟨v, rfl, hown, hb1⟩
  obtain ⟨s0, s1, s2, s3, s4, _⟩ := old2 w1 (w.heap.size + 1) 41 _ _ (.int .i64 M) v (by rw [hb1.block _ (by rw [HS.out]; omega)]; exact XR.out)
  have G := Lib.hid (gives_stored (R := w.heap.size + 1) (M := M) (by omega) (by rw [HS.out]; omega) HB.out hown hb1)
  have S4 := Lib.hid s4
  have hform := form2 hown
  clear s4 hown hb1 d00 d01
  rcases hform with rfl | ⟨g', n', c', rfl⟩
  all_goals
    go_wp2_with fail
    refine bodyPost_ret (results_cell_row (by rfl) _ _ (w.heap.size + 1) 41 _ (0, 0) _ (by rfl) S4.out Try.underlying41 rfl info24) rfl ⟨_, rfl, G.out⟩
end Go.Proofs.Ytmadldgajjgbmaa
-- with Sm
namespace Go.Proofs.Ytmadldgajjgbmaa
open Go.RowKit
set_option linter.unusedVariables false
set_option linter.unusedSimpArgs false

theorem cells2 {wx : World} {B : Nat} {a b : Value} (h : wx.heap[B]? = some (Obj.cells #[a, b] 41)) : wx.cell? ⟨B, 0, none⟩ = some a ∧ wx.cell? ⟨B, 1, none⟩ = some b :=
  ⟨by rw [cell_of_row _ _ 0 _ 41 (0, 0) h]; rfl, by rw [cell_of_row _ _ 1 _ 41 (0, 0) h]; rfl⟩
end Go.Proofs.Ytmadldgajjgbmaa
-- with So
namespace Lab
/-- A label that may be, as the statements make it: few categories, levels that a label may have. -/
def Fine (D : Int) (ps : List (Nat × Int)) : Prop := Ok D ps ∧ 1 ≤ D ∧ D ≤ 4 ∧ (∀ p ∈ ps, 0 ≤ p.2 ∧ p.2 ≤ 4 ∧ p.1 < 45) ∧ ps.length ≤ 12
/-- What a seed's first levels have made of it. -/
def Sown (D : Int) (k : Nat) (m : List (Nat × Int)) : Prop := Ok D m ∧ (∀ p ∈ m, 0 ≤ p.2 ∧ p.2 ≤ 4 ∧ p.1 < 3 * k + 1 ∧ p.1 < 45) ∧ m.length ≤ k ∧ m.length ≤ 12
theorem sown_nil (D : Int) : Sown D 0 [] := ⟨ok_nil D, by simp, by simp, by simp⟩
theorem sown_skip {D : Int} {k : Nat} {m : List (Nat × Int)} (h : Sown D k m) : Sown D (k + 1) m :=
  ⟨h.1, fun p hp => by have := h.2.1 p hp; omega, by have := h.2.2.1; omega, h.2.2.2⟩
theorem sown_add {D : Int} {k : Nat} {n : Int} {m : List (Nat × Int)} (h : Sown D k m) (hk : k < 12) (h0 : 0 ≤ n) (h4 : n ≤ 4) (hn : n ≠ D) : Sown D (k + 1) (m ++ [(3 * k + 1, n)]) := by
  refine ⟨⟨?_, fun p hp => ?_, fun p hp => ?_⟩, fun p hp => ?_, ?_, ?_⟩
  · unfold Rise
    rw [List.pairwise_append]
    exact ⟨h.1.1, by simp, fun p hp q hq => by simp at hq; subst hq; exact (h.2.1 p hp).2.2.1⟩
  · rcases List.mem_append.1 hp with hp | hp
    · exact h.1.2.1 p hp
    · simp at hp; subst hp; simp; omega
  · rcases List.mem_append.1 hp with hp | hp
    · exact h.1.2.2 p hp
    · simp at hp; subst hp; exact hn
  · rcases List.mem_append.1 hp with hp | hp
    · have := h.2.1 p hp; omega
    · simp at hp; subst hp; simp only; omega
  · have := h.2.2.1; simp; omega
  · have := h.2.2.1; simp; omega
/-- What a seed's level makes of its label, and what its first levels do. -/
def sow1 (D : Int) (k : Nat) (x : Int) : List (Nat × Int) := if k < 12 ∧ (x.tmod 5 + 5).tmod 5 ≠ D then [(3 * k + 1, (x.tmod 5 + 5).tmod 5)] else []
def sowTo (D : Int) (ls : List Int) : Nat → List (Nat × Int)
  | 0 => []
  | k + 1 => sowTo D ls k ++ (match ls[k]? with | none => [] | some x => sow1 D k x)
def SownIs (D : Int) (ls : List Int) (k : Nat) (m : List (Nat × Int)) : Prop := Sown D k m ∧ m = sowTo D ls k
theorem is_nil (D : Int) (ls : List Int) : SownIs D ls 0 [] := ⟨sown_nil D, rfl⟩
theorem is_skip {D x : Int} {ls : List Int} {k : Nat} {m : List (Nat × Int)} (h : SownIs D ls k m) (hx : ls[k]? = some x) (hn : ¬ (k < 12 ∧ (x.tmod 5 + 5).tmod 5 ≠ D)) : SownIs D ls (k + 1) m :=
  ⟨sown_skip h.1, by rw [sowTo, hx, ← h.2]; simp only [sow1]; rw [if_neg hn, List.append_nil]⟩
theorem is_add {D x n : Int} {ls : List Int} {k : Nat} {m : List (Nat × Int)} (h : SownIs D ls k m) (hx : ls[k]? = some x) (en : (x.tmod 5 + 5).tmod 5 = n) (hk : k < 12) (h0 : 0 ≤ n) (h4 : n ≤ 4) (hn : n ≠ D) : SownIs D ls (k + 1) (m ++ [(3 * k + 1, n)]) :=
  ⟨sown_add h.1 hk h0 h4 hn, by rw [sowTo, hx, ← h.2]; simp only [sow1]; rw [en, if_pos ⟨hk, hn⟩]⟩
/-- A seed's label. -/
def seedD (S : Int) : Int := S % 4 + 1
def seedP (S : Int) (ls : List Int) : List (Nat × Int) := sowTo (seedD S) ls ls.length
end Lab
namespace Go.Proofs.Ytmadldgajjgbmaa
open Go.RowKit
set_option linter.unusedVariables false
set_option linter.unusedSimpArgs false

theorem and3 (n : Int) : bits .and .i64 n 3 = n % 4 := by
  have h3 : (BitVec.ofInt 64 3).toNat = 2 ^ 2 - 1 := by decide
  have key : (BitVec.ofInt 64 n &&& BitVec.ofInt 64 3).toNat = (n % ((2 ^ 64 : Nat) : Int)).toNat % 2 ^ 2 := by
    rw [BitVec.toNat_and, BitVec.toNat_ofInt, h3, Nat.and_two_pow_sub_one_eq_mod]
  show IntKind.i64.wrap ((BitVec.ofInt 64 n &&& BitVec.ofInt 64 3).toNat : Nat) = n % 4
  rw [key, IntKind.wrap_i64]
  omega
theorem five (x : Int) : ∃ y N : Int, x.tmod 5 = y ∧ wrap64 (y + 5) = y + 5 ∧ (y + 5).tmod 5 = N ∧ 0 ≤ N ∧ N ≤ 4 := by
  have h1 : x.tmod 5 < 5 := Int.tmod_lt_of_pos x (by omega)
  have h2 : -5 < x.tmod 5 := Int.lt_tmod_of_pos x (by omega)
  refine ⟨_, _, rfl, by unfold wrap64; omega, rfl, ?_⟩
  rw [Int.tmod_eq_emod_of_nonneg (by omega)]
  omega
/-- A seed's own label, in memory. -/
def SeedIs (S : Int) (ls : List Int) (w : World) (e : Ending) (w' : World) : Prop := ∃ v, e = .returned (.agg #[.int .i64 (Lab.seedD S), v]) ∧ Lab.Fine (Lab.seedD S) (Lab.seedP S ls) ∧ w'.ownsRow w.heap.size 80 2 v (Lab.seedP S ls).length (F (Lab.seedP S ls)) ∧ Below w.heap.size w w'
theorem rc_of_owns {w : World} {base : Nat} {v : Value} {ps : List (Nat × Int)} (h : w.ownsRow base 80 2 v ps.length (F ps)) (hn : ps.length ≤ 140737488351232) : RC w.heap.size w v ps := by
  by_cases h0 : ps.length = 0
  · rcases h.2 with ⟨rfl, _⟩ | ⟨g, cap, cur, hv, hb, hg, hc, _⟩
    · exact .inl ⟨rfl, List.eq_nil_of_length_eq_zero h0⟩
    · refine .inr ⟨g, 0, cap, hv, (Array.getElem?_eq_some_iff.1 hg).1, hc, hn, fun i p hp => ?_⟩
      rw [List.eq_nil_of_length_eq_zero h0] at hp; simp at hp
  · have hc := h.2
    obtain ⟨g, cap, rfl, hb, hg⟩ := h.form (by omega)
    refine .inr ⟨g, 0, cap, rfl, hg, ?_, hn, fun i p hp => ?_⟩
    · rcases hc with ⟨e, _⟩ | ⟨g', cap', cur, e, _, _, hc', _⟩
      · cases e
      · cases e; exact hc'
    · have hi : i < ps.length := (List.getElem?_eq_some_iff.1 hp).1
      rw [h.cellAt (0 + i * 2) (by omega), h.cellAt (0 + i * 2 + 1) (by omega), Nat.zero_add]
      exact F_at hp
def SeedRel (w : World) (D : Int) (ls : List Int) (sv : Value) (S : Int) (k : Nat) (wr : World) : Prop :=
  ∃ m v, wr.heap[w.heap.size + 1 + 1]? = some (Obj.cells #[.int .i64 D, v] 41) ∧ wr.ownsRow (w.heap.size + 3) 80 2 v m.length (F m) ∧ wr.heap[w.heap.size + 1]? = some (Obj.cells #[.int .i64 0, .slice none 0 0] 41) ∧
    Below w.heap.size w wr ∧ w.heap.size + 3 ≤ wr.heap.size ∧ Lab.SownIs D ls k m
set_option maxHeartbeats 1000000 in
theorem seed_some (S : Int) (b off cap n : Nat) (ls : List Int) (w : World) (hl : ls.length = n) (hn : n ≤ 140737488351232) (hb : b < w.heap.size)
   (hc : ∀ i x, ls[i]? = some x → w.cell? ⟨b, off + i, none⟩ = some (.int .i64 x)) :
    Calls Try.prog 17 #[.agg #[.int .i64 S, .slice (some ⟨b, off, none⟩) n cap]] w (SeedIs S ls w) := by
  obtain ⟨i0, hi, hz0, hz1, hz2⟩ := info_parts info47
  have HC := Lib.hid hc
  have HL := Lib.hid hl
  obtain ⟨D, eD, hD⟩ : ∃ D, S % 4 + 1 = D ∧ 1 ≤ D ∧ D ≤ 4 := ⟨_, rfl, by omega⟩
  have e3 := and3 S
  have HDE := Lib.hid eD
  have HD := Lib.hid hD
  clear hc hl hD
  have hb0 : Below w.heap.size w (((w.alloc (Obj.cells #[.int .i64 S, .slice (some ⟨b, off, none⟩) n cap] 57)).alloc (Obj.cells #[.int .i64 0, .slice none 0 0] 41)).alloc (Obj.cells #[.int .i64 D, .slice none 0 0] 41)) := (((Below.refl _ _).alloc (Nat.le_refl _) _).alloc (by simp) _).alloc (by simp <;> omega) _
  have hx : (((w.alloc (Obj.cells #[.int .i64 S, .slice (some ⟨b, off, none⟩) n cap] 57)).alloc (Obj.cells #[.int .i64 0, .slice none 0 0] 41)).alloc (Obj.cells #[.int .i64 D, .slice none 0 0] 41)).heap.size = w.heap.size + 3 ∧
      (((w.alloc (Obj.cells #[.int .i64 S, .slice (some ⟨b, off, none⟩) n cap] 57)).alloc (Obj.cells #[.int .i64 0, .slice none 0 0] 41)).alloc (Obj.cells #[.int .i64 D, .slice none 0 0] 41)).heap[w.heap.size + 1]? = some (Obj.cells #[.int .i64 0, .slice none 0 0] 41) ∧
      (((w.alloc (Obj.cells #[.int .i64 S, .slice (some ⟨b, off, none⟩) n cap] 57)).alloc (Obj.cells #[.int .i64 0, .slice none 0 0] 41)).alloc (Obj.cells #[.int .i64 D, .slice none 0 0] 41)).heap[w.heap.size + 1 + 1]? = some (Obj.cells #[.int .i64 D, .slice none 0 0] 41) := by
    refine ⟨by simp, ?_, ?_⟩
    · rw [Below.heap_alloc _ _ _ (by simp)]
      have := heap_alloc_new (w.alloc (Obj.cells #[.int .i64 S, .slice (some ⟨b, off, none⟩) n cap] 57)) (Obj.cells #[.int .i64 0, .slice none 0 0] 41); simpa using this
    · have := heap_alloc_new ((w.alloc (Obj.cells #[.int .i64 S, .slice (some ⟨b, off, none⟩) n cap] 57)).alloc (Obj.cells #[.int .i64 0, .slice none 0 0] 41)) (Obj.cells #[.int .i64 D, .slice none 0 0] 41); simpa using this
  obtain ⟨W0, e0⟩ : ∃ W0, W0 = ((w.alloc (Obj.cells #[.int .i64 S, .slice (some ⟨b, off, none⟩) n cap] 57)).alloc (Obj.cells #[.int .i64 0, .slice none 0 0] 41)).alloc (Obj.cells #[.int .i64 D, .slice none 0 0] 41) := ⟨_, rfl⟩
  rw [← e0] at hb0 hx
  obtain ⟨hs, x0, x1⟩ := hx
  have HS : SeedRel w D ls (.slice (some ⟨b, off, none⟩) n cap) S 0 W0 := ⟨[], _, x1, World.ownsRow_nil _ _ _ _, x0, hb0, by omega, Lab.is_nil D ls⟩
  have HS0 := Lib.hid HS
  clear hb0 hs x0 x1 HS
  go_enter Try.func17, Try.ntmps17
  go_wp2_with fail
  rw [← e0]
  clear e0 e3 eD
  go_loopg [14] n (fun g i wr => ∃ k : Nat, k ≤ n ∧ Hid (g = n - k) ∧ i = .int .i64 k ∧ Hid (SeedRel w D ls (.slice (some ⟨b, off, none⟩) n cap) S k wr))
  case atStart => exact ⟨0, by omega, Lib.hid (by omega), rfl, HS0⟩
  case round =>
    obtain ⟨k, hk, hg, rfl, hrl⟩ := hrel
    clear HS0
    by_cases hlt : k < n
    · obtain ⟨x, hx⟩ : ∃ x, ls[k]? = some x := ⟨_, List.getElem?_eq_getElem (by rw [HL.out]; exact hlt)⟩
      obtain ⟨m, v, r1, r2, r3, r4, r5, r6⟩ := hrl.out
      have y0 : wr.cell? ⟨b, off + k, none⟩ = some (.int .i64 x) := by rw [r4.cell (p := ⟨b, _, none⟩) hb]; exact HC.out k x hx
      have c0 : wr.cell? ⟨w.heap.size + 1 + 1, 0, none⟩ = some (.int .i64 D) := by rw [cell_of_row _ _ 0 _ 41 (0, 0) r1]; rfl
      have c1 : wr.cell? ⟨w.heap.size + 1 + 1, 1, none⟩ = some v := by rw [cell_of_row _ _ 1 _ 41 (0, 0) r1]; rfl
      have HR := Lib.hid (And.intro r1 (And.intro r2 (And.intro r3 (And.intro r4 (And.intro r5 r6)))))
      have HXK := Lib.hid hx
      clear hx r1 r2 r3 r4 r5 r6
      obtain ⟨y, N, e1, e2, e5, hN⟩ := five x
      have HNX := Lib.hid (show (x.tmod 5 + 5).tmod 5 = N by rw [e1]; exact e5)
      have h12 : (decide ((k : Int) < 12)) = decide (k < 12) := by rw [decide_eq_decide]; omega
      go_upto_region 6 with fail
      clear e1 e2 e5 y0
      have HN := Lib.hid hN
      clear hN
      by_cases hk12 : k < 12
      · have t1 : (k : Int) < 12 := by omega
        by_cases hND : N = D
        · have t2 : (N != D) = false := by rw [bne_eq_false_iff_eq]; exact hND
          have hnx := Lib.hid (show SeedRel w D ls (.slice (some ⟨b, off, none⟩) n cap) S (k + 1) wr from ⟨m, v, HR.out.1, HR.out.2.1, HR.out.2.2.1, HR.out.2.2.2.1, HR.out.2.2.2.2.1, Lab.is_skip HR.out.2.2.2.2.2 HXK.out (fun h => h.2 (HNX.out.trans hND))⟩)
          clear hND
          go_wp2_with fail
          go_roundg (n - (k + 1))
          case measure => rw [hg.out]; omega
          case rel => exact ⟨k + 1, by omega, Lib.hid rfl, by go_num, hnx⟩
        · have t2 : (N != D) = true := by rw [bne_iff_ne]; exact hND
          have hsown := Lib.hid (Lab.is_add HR.out.2.2.2.2.2 HXK.out HNX.out hk12 HN.out.1 HN.out.2 hND)
          have hmlen := HR.out.2.2.2.2.2.1.2.2.2
          have hwsz := HR.out.2.2.2.2.1
          obtain ⟨K, eK⟩ : ∃ K, m.length = K := ⟨_, rfl⟩
          obtain ⟨XS, eXS⟩ : ∃ XS, F m = XS := ⟨_, rfl⟩
          have HO := Lib.hid HR.out.2.1
          rw [eK, eXS] at HO
          rw [eK] at hmlen
          have EK := Lib.hid (And.intro eK eXS)
          clear hND eK eXS
          go_wp2_with (at_builtin; refine wpList_append_own _ rfl _ _ 39 rfl (w.heap.size + 3) 80 i0 (.agg #[.int .u32 0, .int .i64 0]) 2 16 Try.underlying39 hi hz0 hz1 hz2 rfl (by decide) _ _ _ rfl (HO.out.alloc _) ⟨wr.heap.size, 0, none⟩ 1 1 [.int .u32 (3 * (k : Int) + 1), .int .i64 N] rfl rfl (cell_two_new _ _ _ _) (by simp [Value.oneCell']) (by unfold maxLen; omega) (by omega) (by simp; omega) ?_)
          intro v' w2 hown2 hg2 _
          obtain ⟨g', cap', rfl, _, _⟩ := hown2.form (by omega)
          have hkeep : ∀ j, j < w.heap.size + 3 → w2.heap[j]? = wr.heap[j]? := fun j hj => by
            rw [hg2.block j (by simp; omega) (fun e => by have := (HO.out.lt j e.symm).1; omega)]
            exact Below.heap_alloc _ _ _ (by omega)
          have hkL : w2.heap[w.heap.size + 1 + 1]? = some (Obj.cells #[.int .i64 D, v] 41) := by rw [hkeep _ (by omega)]; exact HR.out.1
          have k1 : w2.cell? ⟨w.heap.size + 1 + 1, 1, none⟩ = some v := by rw [cell_of_row _ _ 1 _ 41 (0, 0) hkL]; rfl
          have k2 : w2.frozen? ⟨w.heap.size + 1 + 1, 1, none⟩ = false := frozen_of_row _ _ 1 _ 41 hkL
          have hg' : w.heap.size + 3 ≤ g' := (hown2.lt g' rfl).1
          have hnx := Lib.hid (show SeedRel w D ls (.slice (some ⟨b, off, none⟩) n cap) S (k + 1) (w2.setCell ⟨w.heap.size + 1 + 1, 1, none⟩ (.slice (some ⟨g', 0, none⟩) (K + 1) cap')) from by
            refine ⟨m ++ [(3 * k + 1, N)], .slice (some ⟨g', 0, none⟩) (K + 1) cap', ?_, ?_, ?_, ?_, ?_, hsown.out⟩
            · have := heap_setCell_same w2 _ 1 _ 41 (.slice (some ⟨g', 0, none⟩) (K + 1) cap') hkL
              simpa using this
            · rw [F_snoc, EK.out.2, List.length_append, EK.out.1, show (((3 * k + 1 : Nat)) : Int) = 3 * (k : Int) + 1 from by omega]
              exact owns_set hown2 ⟨w.heap.size + 1 + 1, 1, none⟩ _ (by simp [Value.ownBlock]; omega)
            · rw [heap_setCell_other _ _ _ _ (by simp), hkeep _ (by omega)]; exact HR.out.2.2.1
            · exact HR.out.2.2.2.1.trans ((((Below.refl w.heap.size wr).alloc (by omega) _).grown hg2 (by simp; omega) (fun j ej => by have := (HO.out.lt j ej).1; omega)).setCell (p := ⟨w.heap.size + 1 + 1, 1, none⟩) (by simp <;> omega) _)
            · have := hg2.size; simp at this; simp; omega)
          clear hown2 hg2 hkeep hkL
          go_wp2_with fail
          go_roundg (n - (k + 1))
          case measure => rw [hg.out]; omega
          case rel => exact ⟨k + 1, by omega, Lib.hid rfl, by go_num, hnx⟩
      · have t1 : ¬ (k : Int) < 12 := by omega
        have hnx := Lib.hid (show SeedRel w D ls (.slice (some ⟨b, off, none⟩) n cap) S (k + 1) wr from ⟨m, v, HR.out.1, HR.out.2.1, HR.out.2.2.1, HR.out.2.2.2.1, HR.out.2.2.2.2.1, Lab.is_skip HR.out.2.2.2.2.2 HXK.out (fun h => hk12 h.1)⟩)
        go_wp2_with fail
        go_roundg (n - (k + 1))
        case measure => rw [hg.out]; omega
        case rel => exact ⟨k + 1, by omega, Lib.hid rfl, by go_num, hnx⟩
    · obtain ⟨m, v, r1, r2, r3, r4, r5, r6⟩ := hrl.out
      obtain ⟨c0, _, _, _, _, c1⟩ := old2 wr _ 41 _ _ (.int .i64 D) v r1
      obtain ⟨s0, s1, s2, s3, s4, _⟩ := old2 wr (w.heap.size + 1) 41 _ _ (.int .i64 D) v r3
      have hform := form2 r2
      have hne : some (w.heap.size + 1) ≠ v.ownBlock := by intro e; have := (r2.lt _ e.symm).1; omega
      have hfine : Lab.Fine D m := ⟨r6.1.1, HD.out.1, HD.out.2, fun p hp => by have := r6.1.2.1 p hp; omega, r6.1.2.2.2⟩
      have hG : ((wr.setCell ⟨w.heap.size + 1, 0, none⟩ (.int .i64 D)).setCell ⟨w.heap.size + 1, 1, none⟩ v).ownsRow w.heap.size 80 2 v m.length (F m) := owns_mono (owns_set (owns_set r2 _ _ hne) _ _ hne) (by omega)
      have hB : Below w.heap.size w ((wr.setCell ⟨w.heap.size + 1, 0, none⟩ (.int .i64 D)).setCell ⟨w.heap.size + 1, 1, none⟩ v) := (r4.setCell (by simp <;> omega) _).setCell (by simp <;> omega) _
      have hsi : SeedIs S ls w (.returned (.agg #[.int .i64 D, v])) ((wr.setCell ⟨w.heap.size + 1, 0, none⟩ (.int .i64 D)).setCell ⟨w.heap.size + 1, 1, none⟩ v) := by
        have d1 : Lab.seedD S = D := HDE.out
        have d2 : Lab.seedP S ls = m := by
          unfold Lab.seedP
          rw [d1, HL.out, r6.2, show n = k by omega]
        unfold SeedIs
        rw [d1, d2]
        exact ⟨v, rfl, hfine, hG, hB⟩
      have G := Lib.hid hsi
      have S4 := Lib.hid s4
      clear s4 hG hB hfine hne hsi r1 r2 r3 r4 r5 r6 hrl
      rcases hform with rfl | ⟨g', n', c', rfl⟩
      all_goals
        go_wp2_with fail
        refine bodyPost_ret (results_cell_row (by rfl) _ _ (w.heap.size + 1) 41 _ (0, 0) _ (by rfl) S4.out Try.underlying41 rfl info24) rfl G.out
end Go.Proofs.Ytmadldgajjgbmaa
-- with Sp
namespace Go.Proofs.Ytmadldgajjgbmaa
open Go.RowKit
set_option linter.unusedVariables false
set_option linter.unusedSimpArgs false

theorem seed_empty (S : Int) (a0 : Option Addr) (c0 : Nat) (w : World) : Calls Try.prog 17 #[.agg #[.int .i64 S, .slice a0 0 c0]] w (SeedIs S [] w) := by
  obtain ⟨D, eD, hD⟩ : ∃ D, S % 4 + 1 = D ∧ 1 ≤ D ∧ D ≤ 4 := ⟨_, rfl, by omega⟩
  have e3 := and3 S
  have hb0 : Below w.heap.size w (((w.alloc (Obj.cells #[.int .i64 S, .slice a0 0 c0] 57)).alloc (Obj.cells #[.int .i64 0, .slice none 0 0] 41)).alloc (Obj.cells #[.int .i64 D, .slice none 0 0] 41)) := (((Below.refl _ _).alloc (Nat.le_refl _) _).alloc (by simp) _).alloc (by simp <;> omega) _
  have hx : (((w.alloc (Obj.cells #[.int .i64 S, .slice a0 0 c0] 57)).alloc (Obj.cells #[.int .i64 0, .slice none 0 0] 41)).alloc (Obj.cells #[.int .i64 D, .slice none 0 0] 41)).heap.size = w.heap.size + 3 ∧
      (((w.alloc (Obj.cells #[.int .i64 S, .slice a0 0 c0] 57)).alloc (Obj.cells #[.int .i64 0, .slice none 0 0] 41)).alloc (Obj.cells #[.int .i64 D, .slice none 0 0] 41)).heap[w.heap.size + 1]? = some (Obj.cells #[.int .i64 0, .slice none 0 0] 41) ∧
      (((w.alloc (Obj.cells #[.int .i64 S, .slice a0 0 c0] 57)).alloc (Obj.cells #[.int .i64 0, .slice none 0 0] 41)).alloc (Obj.cells #[.int .i64 D, .slice none 0 0] 41)).heap[w.heap.size + 1 + 1]? = some (Obj.cells #[.int .i64 D, .slice none 0 0] 41) := by
    refine ⟨by simp, ?_, ?_⟩
    · rw [Below.heap_alloc _ _ _ (by simp)]
      have := heap_alloc_new (w.alloc (Obj.cells #[.int .i64 S, .slice a0 0 c0] 57)) (Obj.cells #[.int .i64 0, .slice none 0 0] 41); simpa using this
    · have := heap_alloc_new ((w.alloc (Obj.cells #[.int .i64 S, .slice a0 0 c0] 57)).alloc (Obj.cells #[.int .i64 0, .slice none 0 0] 41)) (Obj.cells #[.int .i64 D, .slice none 0 0] 41); simpa using this
  obtain ⟨W0, e0⟩ : ∃ W0, W0 = ((w.alloc (Obj.cells #[.int .i64 S, .slice a0 0 c0] 57)).alloc (Obj.cells #[.int .i64 0, .slice none 0 0] 41)).alloc (Obj.cells #[.int .i64 D, .slice none 0 0] 41) := ⟨_, rfl⟩
  rw [← e0] at hb0 hx
  obtain ⟨hs, x0, x1⟩ := hx
  obtain ⟨cc0, _, _, _, _, cc1⟩ := old2 W0 _ 41 _ _ (.int .i64 D) (.slice none 0 0) x1
  obtain ⟨s0, s1, s2, s3, s4, _⟩ := old2 W0 (w.heap.size + 1) 41 _ _ (.int .i64 D) (.slice none 0 0) x0
  have hB : Below w.heap.size w ((W0.setCell ⟨w.heap.size + 1, 0, none⟩ (.int .i64 D)).setCell ⟨w.heap.size + 1, 1, none⟩ (.slice none 0 0)) := (hb0.setCell (by simp <;> omega) _).setCell (by simp <;> omega) _
  have hfine : Lab.Fine D [] := ⟨Lab.ok_nil D, hD.1, hD.2, by simp, by simp⟩
  have hsi : SeedIs S [] w (.returned (.agg #[.int .i64 D, .slice none 0 0])) ((W0.setCell ⟨w.heap.size + 1, 0, none⟩ (.int .i64 D)).setCell ⟨w.heap.size + 1, 1, none⟩ (.slice none 0 0)) := by
    have d1 : Lab.seedD S = D := eD
    have d2 : Lab.seedP S [] = [] := rfl
    unfold SeedIs
    rw [d1, d2]
    exact ⟨_, rfl, hfine, World.ownsRow_nil _ _ _ _, hB⟩
  have G := Lib.hid hsi
  have S4 := Lib.hid s4
  clear s4 hB hfine hb0 x0 x1 hD hs hsi
  go_enter Try.func17, Try.ntmps17
  go_wp2_with fail
  rw [← e0]
  clear e0 e3 eD
  go_loopg [14] 0 (fun g i wr => i = .int .i64 0 ∧ wr = W0)
  case atStart => exact ⟨rfl, rfl⟩
  case round =>
    obtain ⟨rfl, rfl⟩ := hrel
    go_wp2_with fail
    refine bodyPost_ret (results_cell_row (by rfl) _ _ (w.heap.size + 1) 41 _ (0, 0) _ (by rfl) S4.out Try.underlying41 rfl info24) rfl G.out
/-- A slice of whole numbers, as an argument has it. -/
def Ints (w : World) (v : Value) : Prop := (∃ a c, v = .slice a 0 c) ∨ ∃ b off cap n, ∃ ls : List Int, v = .slice (some ⟨b, off, none⟩) n cap ∧ ls.length = n ∧ n ≤ 140737488351232 ∧ b < w.heap.size ∧ ∀ i x, ls[i]? = some x → w.cell? ⟨b, off + i, none⟩ = some (.int .i64 x)
theorem Ints.below {w w' : World} {v : Value} (h : Ints w v) (hb : Below w.heap.size w w') : Ints w' v := by
  rcases h with h | ⟨b, off, cap, n, ls, h1, h2, h3, h4, h5⟩
  · exact .inl h
  · exact .inr ⟨b, off, cap, n, ls, h1, h2, h3, Nat.lt_of_lt_of_le h4 hb.size, fun i x hx => by rw [hb.cell (p := ⟨b, _, none⟩) h4]; exact h5 i x hx⟩
/-- The same, the numbers named. -/
def IntsL (w : World) (v : Value) (ls : List Int) : Prop := ((∃ a c, v = .slice a 0 c) ∧ ls = []) ∨ ∃ b off cap n, v = .slice (some ⟨b, off, none⟩) n cap ∧ ls.length = n ∧ n ≤ 140737488351232 ∧ b < w.heap.size ∧ ∀ i x, ls[i]? = some x → w.cell? ⟨b, off + i, none⟩ = some (.int .i64 x)
theorem IntsL.below {w w' : World} {v : Value} {ls : List Int} (h : IntsL w v ls) (hb : Below w.heap.size w w') : IntsL w' v ls := by
  rcases h with h | ⟨b, off, cap, n, h1, h2, h3, h4, h5⟩
  · exact .inl h
  · exact .inr ⟨b, off, cap, n, h1, h2, h3, Nat.lt_of_lt_of_le h4 hb.size, fun i x hx => by rw [hb.cell (p := ⟨b, _, none⟩) h4]; exact h5 i x hx⟩
theorem Ints.named {w : World} {v : Value} (h : Ints w v) : ∃ ls, IntsL w v ls := by
  rcases h with h | ⟨b, off, cap, n, ls, h1⟩
  · exact ⟨[], .inl ⟨h, rfl⟩⟩
  · exact ⟨ls, .inr ⟨b, off, cap, n, h1⟩⟩
/-- A seed's label: which one it is. -/
theorem seed_is (S : Int) (v : Value) (ls : List Int) (w : World) (h : IntsL w v ls) : Calls Try.prog 17 #[.agg #[.int .i64 S, v]] w (SeedIs S ls w) := by
  rcases h with ⟨⟨a, c, rfl⟩, rfl⟩ | ⟨b, off, cap, n, rfl, h2, h3, h4, h5⟩
  · exact seed_empty S a c w
  · exact seed_some S b off cap n ls w h2 h3 h4 h5
end Go.Proofs.Ytmadldgajjgbmaa
