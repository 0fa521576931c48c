import Derived.Test.YtodionedjokdmaaSf
import Derived.Test.YtodionedjokdmaaRj
import Derived.WalkSmall
import Derived.Shelf.AbstractIn
namespace Go.Proofs.Ytodionedjokdmaa
open Go.RowKit Go.Shelf
set_option linter.unusedVariables false
set_option linter.unusedSimpArgs false
attribute [local go_sem] Oper.semAt_some

theorem of_any (D : Int) (w : World) : Calls Try.prog 16 #[.int .i64 D] w fun e w' => e = .returned (.agg #[.int .i64 D, .slice none 0 0]) ∧ Below w.heap.size w w' := by
  have hB : Below w.heap.size w (w.alloc (Obj.cells #[.int .i64 D, .slice none 0 0] 44)) := (Below.refl _ _).alloc (Nat.le_refl _) _
  have hk := heap_alloc_new w (Obj.cells #[.int .i64 D, .slice none 0 0] 44)
  obtain ⟨s0, s1, s2, s3, _⟩ := fresh2 w 44 (.int .i64 0) (.slice none 0 0) (.int .i64 D) (.slice none 0 0)
  have HB := Lib.hid hB
  have HK := Lib.hid hk
  clear hB hk
  go_enter Try.func16, Try.ntmps16
  go_wp2
  refine bodyPost_ret (results_cell_row (by rfl) _ _ w.heap.size 44 _ (0, 0) _ (by rfl) HK.out Try.underlying44 rfl info24) rfl ⟨rfl, HB.out⟩
theorem old2 (w : World) (B : Nat) (t : TypeId) (a b u v : Value) (h : w.heap[B]? = some (Obj.cells #[a, b] t)) :
    w.cell? ⟨B, 0, none⟩ = some a ∧ w.frozen? ⟨B, 0, none⟩ = false ∧ (w.setCell ⟨B, 0, none⟩ u).cell? ⟨B, 1, none⟩ = some b ∧ (w.setCell ⟨B, 0, none⟩ u).frozen? ⟨B, 1, none⟩ = false ∧
    ((w.setCell ⟨B, 0, none⟩ u).setCell ⟨B, 1, none⟩ v).heap[B]? = some (Obj.cells #[u, v] t) ∧ w.cell? ⟨B, 1, none⟩ = some b := by
  have h1 := heap_setCell_same _ _ 0 _ t u h
  have h2 := heap_setCell_same _ _ 1 _ t v h1
  refine ⟨by rw [cell_of_row _ _ 0 _ t (0, 0) h]; rfl, frozen_of_row _ _ 0 _ t h, by rw [cell_of_row _ _ 1 _ t (0, 0) h1]; rfl, frozen_of_row _ _ 1 _ t h1, ?_, by rw [cell_of_row _ _ 1 _ t (0, 0) h]; rfl⟩
  simpa using h2
/-- What a function of two levels does, wherever what lay lies. -/
def Picks (g : Nat) (lb : Array Value) (f : Int → Int → Int) (w : World) : Prop :=
  ∀ (x y : Int) (W : World), Below w.heap.size w W → Calls Try.prog g (#[.int .i64 x, .int .i64 y] ++ lb) W fun e W' => e = .returned (.int .i64 (f x y)) ∧ W' = W
theorem own_lab {β : Type} (B base e : Nat) (M : Int) (k : β → Nat) (xs : β → List Value) : Own (fun s W => ∃ v, W.heap[B]? = some (Obj.cells #[.int .i64 M, v] 44) ∧ W.ownsRow base e 2 v (k s) (xs s)) := by
  rintro s X Y row ⟨v, hv, hr⟩ hg hrow
  refine ⟨v, (hg.block B (Array.getElem?_eq_some_iff.1 hv).1 (fun e' => ?_)).trans hv, hr.kept hg ?_⟩
  · obtain ⟨o, ho, hc⟩ := hrow B e'.symm
    rw [hv] at ho; cases ho; cases hc
  · rcases hr.2 with ⟨rfl, _⟩ | ⟨g, cap, cur, rfl, _, hgb, _⟩
    · exact .inl rfl
    · refine .inr fun e' => ?_
      obtain ⟨o, ho, hc⟩ := hrow g (by simpa [Value.ownBlock] using e'.symm)
      rw [hgb] at ho; cases ho; cases hc
set_option maxRecDepth 100000 in
set_option maxHeartbeats 4000000 in
theorem pmerge_any (g : Nat) (lb : Array Value) (f : Int → Int → Int) (D E : Int) (v1 v2 : Value) (ps qs : List (Nat × Int)) (w : World) (eg : ∀ args w, (callFunc g args).run Try.prog w = .ok (.enter g args) w) (hf : Picks g lb f w)
    (hn : ps.length + qs.length ≤ 8796093022207) (r1 : RC w.heap.size w v1 ps) (r2 : RC w.heap.size w v2 qs) :
    Calls Try.prog 43 #[.agg #[.int .i64 D, v1], .agg #[.int .i64 E, v2], .func (.func g) #[] lb] w fun e w' =>
      ∃ v, e = .returned (.agg #[.int .i64 (f D E), v]) ∧ (∀ m, m = Lab.mk f (f D E) (Lab.zipm D E ps qs) → w'.ownsRow w.heap.size 101 2 v m.length (F m)) ∧ Below w.heap.size w w' := by
  obtain ⟨i0, hi, hz0, hz1, hz2⟩ := info_parts info47
  have HF := Lib.hid hf
  have HN := Lib.hid hn
  have R1 := Lib.hid r1
  have R2 := Lib.hid r2
  obtain ⟨M, eM⟩ : ∃ M, f D E = M := ⟨_, rfl⟩
  have C0 := Lib.hid (fun (W : World) (h : Below w.heap.size w W) => eM ▸ hf D E W h)
  have C1 := Lib.hid (fun (W : World) => both_any D E v1 v2 W)
  have C2 := Lib.hid (fun (W : World) => of_any M W)
  rw [eM]
  clear hf hn r1 r2 eM
  refine (callsIn_wide (n := 5)).1 ?_
  refine callsIn_of_wp_marks Try.func43 rfl trivial ?_ rfl
  simp only [Try.ntmps43, List.size_toArray, List.length_cons, List.length_nil, Nat.reduceAdd, Nat.reduceSub, Array.replicate_succ, Array.replicate_zero, List.push_toArray, List.append_toArray, List.nil_append, List.cons_append]
  refine wpIn_wide.2 ?_
  have hW0 : Below w.heap.size w ((((w.alloc (Obj.cells #[.int .i64 D, v1] 44)).alloc (Obj.cells #[.int .i64 E, v2] 44)).alloc (Obj.cells #[.func (.func g) #[] lb] 117)).alloc (Obj.cells #[.int .i64 0, .slice none 0 0] 44)) :=
    ((((Below.refl _ _).alloc (Nat.le_refl _) _).alloc (by simp) _).alloc (by simp <;> omega) _).alloc (by simp <;> omega) _
  obtain ⟨W0, e0⟩ : ∃ W0, W0 = ((((w.alloc (Obj.cells #[.int .i64 D, v1] 44)).alloc (Obj.cells #[.int .i64 E, v2] 44)).alloc (Obj.cells #[.func (.func g) #[] lb] 117)).alloc (Obj.cells #[.int .i64 0, .slice none 0 0] 44)) := ⟨_, rfl⟩
  have hX : W0.heap.size = w.heap.size + 4 ∧ W0.heap[w.heap.size]? = some (Obj.cells #[.int .i64 D, v1] 44) ∧ W0.heap[w.heap.size + 1]? = some (Obj.cells #[.int .i64 E, v2] 44) ∧
      W0.heap[w.heap.size + 1 + 1]? = some (Obj.cells #[.func (.func g) #[] lb] 117) ∧ W0.heap[w.heap.size + 1 + 1 + 1]? = some (Obj.cells #[.int .i64 0, .slice none 0 0] 44) := by
    rw [e0]
    refine ⟨by simp, ?_, ?_, ?_, ?_⟩
    · rw [Below.heap_alloc _ _ _ (by simp <;> omega), Below.heap_alloc _ _ _ (by simp <;> omega), Below.heap_alloc _ _ _ (by simp)]; exact heap_alloc_new w _
    · rw [Below.heap_alloc _ _ _ (by simp <;> omega), Below.heap_alloc _ _ _ (by simp <;> omega)]
      have := heap_alloc_new (w.alloc (Obj.cells #[.int .i64 D, v1] 44)) (Obj.cells #[.int .i64 E, v2] 44); simpa using this
    · rw [Below.heap_alloc _ _ _ (by simp <;> omega)]
      have := heap_alloc_new ((w.alloc (Obj.cells #[.int .i64 D, v1] 44)).alloc (Obj.cells #[.int .i64 E, v2] 44)) (Obj.cells #[.func (.func g) #[] lb] 117); simpa using this
    · have := heap_alloc_new (((w.alloc (Obj.cells #[.int .i64 D, v1] 44)).alloc (Obj.cells #[.int .i64 E, v2] 44)).alloc (Obj.cells #[.func (.func g) #[] lb] 117)) (Obj.cells #[.int .i64 0, .slice none 0 0] 44); simpa using this
  rw [← e0] at hW0
  have HW0 := Lib.hid hW0
  have HX := Lib.hid hX
  clear hW0 hX
  go_wp2_with fail
  rw [← e0]
  clear e0
  refine (C0.out _ HW0.out).mono ?_
  rintro e w1 ⟨rfl, ew⟩
  rw [ew]
  clear ew
  go_wp2_with fail
  refine (C2.out _).mono ?_
  rintro e W1 ⟨rfl, hb1⟩
  have hb2 : Below W0.heap.size W0 (W1.alloc (Obj.cells #[.int .i64 M, .slice none 0 0] 44)) := hb1.alloc hb1.size _
  have hk2 := heap_alloc_new W1 (Obj.cells #[.int .i64 M, .slice none 0 0] 44)
  have hsz1 := hb1.size
  have hsz2 : (W1.alloc (Obj.cells #[.int .i64 M, .slice none 0 0] 44)).heap.size = W1.heap.size + 1 := by simp
  obtain ⟨s0, s1, s2, s3, _⟩ := fresh2 W1 44 (.int .i64 0) (.slice none 0 0) (.int .i64 M) (.slice none 0 0)
  clear hb1
  go_upto_region 2 with fail
  obtain ⟨W2, e2⟩ : ∃ W2, W2 = W1.alloc (Obj.cells #[.int .i64 M, .slice none 0 0] 44) := ⟨_, rfl⟩
  rw [← e2] at hb2 hk2 hsz2 ⊢
  clear s0 s1 s2 s3 e2
  obtain ⟨BL, eBL⟩ : ∃ BL, W1.heap.size = BL := ⟨_, rfl⟩
  rw [eBL] at hk2 hsz1 hsz2 ⊢
  clear eBL
  have hx := HX.out
  have p1 : W2.heap[w.heap.size]? = some (Obj.cells #[.int .i64 D, v1] 44) := by rw [hb2.block _ (by omega)]; exact hx.2.1
  have p2 : W2.heap[w.heap.size + 1]? = some (Obj.cells #[.int .i64 E, v2] 44) := by rw [hb2.block _ (by omega)]; exact hx.2.2.1
  have p3 : W2.heap[w.heap.size + 1 + 1]? = some (Obj.cells #[.func (.func g) #[] lb] 117) := by rw [hb2.block _ (by omega)]; exact hx.2.2.2.1
  have p4 : W2.heap[w.heap.size + 1 + 1 + 1]? = some (Obj.cells #[.int .i64 0, .slice none 0 0] 44) := by rw [hb2.block _ (by omega)]; exact hx.2.2.2.2
  have hs0 := hx.1
  rw [hs0] at hsz1
  have hB2 := Lib.hid (HW0.out.trans (hb2.mono (by omega)))
  have d1 : W2.cell? ⟨w.heap.size, 0, none⟩ = some (.int .i64 D) := by rw [cell_of_row _ _ 0 _ 44 (0, 0) p1]; rfl
  have d2 : W2.cell? ⟨w.heap.size, 1, none⟩ = some v1 := by rw [cell_of_row _ _ 1 _ 44 (0, 0) p1]; rfl
  have d3 : W2.cell? ⟨w.heap.size + 1, 0, none⟩ = some (.int .i64 E) := by rw [cell_of_row _ _ 0 _ 44 (0, 0) p2]; rfl
  have d4 : W2.cell? ⟨w.heap.size + 1, 1, none⟩ = some v2 := by rw [cell_of_row _ _ 1 _ 44 (0, 0) p2]; rfl
  have P := Lib.hid (And.intro hk2 (And.intro hsz2 (And.intro p3 p4)))
  clear hx hk2 hsz2 p1 p2 p3 p4 hb2 hs0
  go_wp2_with fail
  refine (C1.out _).mono ?_
  rintro e W3 ⟨rfl, e3⟩
  go_wp2_with fail
  rw [← e3]
  have hb3 : Below W2.heap.size W2 W3 := by rw [e3]; exact ((Below.refl _ _).alloc (Nat.le_refl _) _).alloc (by simp) _
  have hsz3 : W3.heap.size = W2.heap.size + 2 := by rw [e3]; simp
  have hk1 : W3.heap[W2.heap.size]? = some (Obj.cells #[.int .i64 D, v1] 44) := by rw [e3, Below.heap_alloc _ _ _ (by simp)]; exact heap_alloc_new W2 _
  have hk2 : W3.heap[W2.heap.size + 1]? = some (Obj.cells #[.int .i64 E, v2] 44) := by
    rw [e3]; have := heap_alloc_new (W2.alloc (Obj.cells #[.int .i64 D, v1] 44)) (Obj.cells #[.int .i64 E, v2] 44); simpa using this
  clear e3 d1 d2 d3 d4
  obtain ⟨hkL, hszL, hkF, hkR⟩ := P.out
  have hb3w : Below w.heap.size w W3 := hB2.out.trans (hb3.mono hB2.out.size)
  have hkL3 : W3.heap[BL]? = some (Obj.cells #[.int .i64 M, .slice none 0 0] 44) := by rw [hb3.block _ (by omega)]; exact hkL
  have hkF3 : W3.heap[w.heap.size + 1 + 1]? = some (Obj.cells #[.func (.func g) #[] lb] 117) := by rw [hb3.block _ (by omega)]; exact hkF
  have hkR3 : W3.heap[w.heap.size + 1 + 1 + 1]? = some (Obj.cells #[.int .i64 0, .slice none 0 0] 44) := by rw [hb3.block _ (by omega)]; exact hkR
  clear hkL hkF hkR
  obtain ⟨B1, eB1⟩ : ∃ B1, W2.heap.size = B1 := ⟨_, rfl⟩
  rw [eB1] at hb3 hsz3 hk1 hk2 hszL ⊢
  have hB1 := Lib.hid (And.intro hszL (And.intro hsz3 hsz1))
  clear eB1 hszL hsz3 hb3
  refine (wpIn_wide (n := 5)).1 ?_
  refine wpIn_rangeFunc_ownH rfl (by omega) (gf := 54) (lb := #[.pointer (some ⟨B1, 0, none⟩), .pointer (some ⟨B1 + 1, 0, none⟩)]) rfl trivial (enters_of Try.func54 (by kernel_rfl) rfl)
    (both_stops 4 (by omega) B1 (B1 + 1) w.heap.size D E v1 v2 ps qs W3 hb3w.size hk1 hk2 (R1.out.below hb3w) (R2.out.below hb3w)) (fun h k => kpB_t h k) (kpB_b hb3w.size (by have := hB1.out; omega) (by have := hB1.out; omega)) (Below.refl _ _) (fun _ => rfl)
    (fun pre W => (∃ v, W.heap[BL]? = some (Obj.cells #[.int .i64 M, v] 44) ∧ W.ownsRow W3.heap.size 101 2 v (Lab.mk f M pre).length (F (Lab.mk f M pre))) ∧ (W.heap[w.heap.size + 1 + 1]? = some (Obj.cells #[.func (.func g) #[] lb] 117) ∧ (W.heap[w.heap.size + 1 + 1 + 1]? = some (Obj.cells #[.int .i64 0, .slice none 0 0] 44) ∧ Below w.heap.size w W)))
    (fun _ _ _ => False)
    (OwnFrom.and (Own.from (own_lab BL W3.heap.size 101 M (fun pre => (Lab.mk f M pre).length) (fun pre => F (Lab.mk f M pre))) _) (OwnFrom.and (Own.from (blk_own _ (fun _ => _) (fun _ => rfl)) _) (OwnFrom.and (Own.from (blk_own _ (fun _ => _) (fun _ => rfl)) _) (ownFrom_below (Nat.le_refl _) hb3w.size))))
    (fun _ _ _ _ _ hs _ _ => hs)
    ⟨⟨_, hkL3, World.ownsRow_nil _ _ _ _⟩, hkF3, hkR3, hb3w⟩
    (fun t a' W => ∃ Bx, W.heap[Bx]? = some (Obj.cells #[.int .i64 t.2.1, .int .i64 t.2.2] 126) ∧ a' = { tmps := #[.agg #[.int .i64 D, v1], .agg #[.int .i64 E, v2], .func (.func g) #[] lb, .pointer (some ⟨w.heap.size, 0, none⟩), .pointer (some ⟨w.heap.size + 1, 0, none⟩), .pointer (some ⟨w.heap.size + 1 + 1, 0, none⟩), .pointer (some ⟨w.heap.size + 1 + 1 + 1, 0, none⟩),
      .pointer (some ⟨BL, 0, none⟩), .int .u32 (t.1 : Int), .pointer (some ⟨Bx, 0, none⟩), undef, .func (.func g) #[] lb, .pointer (some ⟨w.heap.size, 0, none⟩), .int .i64 D, .pointer (some ⟨w.heap.size + 1, 0, none⟩), .int .i64 E, .int .i64 M,
      .agg #[.int .i64 M, .slice none 0 0], .agg #[.int .i64 D, v1], .agg #[.int .i64 E, v2], .func (.func 54) #[] #[.pointer (some ⟨B1, 0, none⟩), .pointer (some ⟨B1 + 1, 0, none⟩)],
      .int .u32 (t.1 : Int), .agg #[.int .i64 t.2.1, .int .i64 t.2.2], undef, undef, undef, undef, undef, undef, undef, undef, undef, undef, undef, undef, undef, undef, undef, undef, undef, undef, undef], defers := [] })
    ?own ?assign ?body ?done ?stop
  case own =>
    rintro t a' _ X Y row ⟨Bx, hx, rfl⟩ hg hr
    exact ⟨Bx, (hg.block Bx (Array.getElem?_eq_some_iff.1 hx).1 (fun e => by obtain ⟨_, o', ho', hc'⟩ := hr Bx e.symm; rw [hx] at ho'; cases ho'; cases hc')).trans hx, rfl⟩
  case assign =>
    rintro l pre t W K hi hK
    obtain ⟨c, x, y⟩ := t
    dsimp only [encs]
    obtain ⟨s0, s1, s2, s3, s4⟩ := fresh2 W 126 (.int .i64 0) (.int .i64 0) (.int .i64 x) (.int .i64 y)
    have hb : Below W.heap.size W (W.alloc (Obj.cells #[.int .i64 x, .int .i64 y] 126)) := (Below.refl _ _).alloc (Nat.le_refl _) _
    have h5 := heap_alloc_new W (Obj.cells #[.int .i64 x, .int .i64 y] 126)
    obtain ⟨⟨v, hv, hrow⟩, hi2, hi3, hi4⟩ := hi
    have hfin := Lib.hid fun (a' : Act) ha => hK a' (W.alloc (Obj.cells #[.int .i64 x, .int .i64 y] 126)) ((KeepsOthers.alloc _ _).from _) ⟨hb.mono hi4.size, fun o ho => by rw [hb.block _ (Array.getElem?_eq_some_iff.1 ho).1]; exact ho, fun o ho => by rw [hb.block _ (Array.getElem?_eq_some_iff.1 ho).1]; exact ho⟩
      ⟨⟨v, by rw [hb.block _ (Array.getElem?_eq_some_iff.1 hv).1]; exact hv, hrow.alloc _⟩, by rw [hb.block _ (Array.getElem?_eq_some_iff.1 hi2).1]; exact hi2, by rw [hb.block _ (Array.getElem?_eq_some_iff.1 hi3).1]; exact hi3, hi4.trans (hb.mono hi4.size)⟩ ⟨W.heap.size, h5, ha⟩
    clear hK hrow hv
    gi_wp2
    exact hfin.out _ rfl
  case body =>
    rintro l pre ⟨c, x, y⟩ a' W hl hrec ⟨⟨v, hv, hrow⟩, hi2, hi3, hi4⟩ ⟨Bx, hx, rfl⟩ hlt
    have c0 : W.cell? ⟨BL, 0, none⟩ = some (.int .i64 M) := by rw [cell_of_row _ _ 0 _ 44 (0, 0) hv]; rfl
    have c1 : W.cell? ⟨BL, 1, none⟩ = some v := by rw [cell_of_row _ _ 1 _ 44 (0, 0) hv]; rfl
    have f0 : W.cell? ⟨w.heap.size + 1 + 1, 0, none⟩ = some (.func (.func g) #[] lb) := by rw [cell_of_row _ _ 0 _ 117 (0, 0) hi2]; rfl
    have x0 : W.cell? ⟨Bx, 0, none⟩ = some (.int .i64 x) := by rw [cell_of_row _ _ 0 _ 126 (0, 0) hx]; rfl
    have x1 : W.cell? ⟨Bx, 1, none⟩ = some (.int .i64 y) := by rw [cell_of_row _ _ 1 _ 126 (0, 0) hx]; rfl
    obtain ⟨r, er⟩ : ∃ r, f x y = r := ⟨_, rfl⟩
    have C3 := Lib.hid (er ▸ HF.out x y W hi4)
    have ER := Lib.hid er
    clear er
    by_cases hr : r = M
    · have hm : Lab.mk f M (pre ++ [(c, x, y)]) = Lab.mk f M pre := Lab.mk_snoc_miss (by show f x y = M; rw [ER.out, hr])
      have HM := Lib.hid hm
      have HI := Lib.hid (And.intro hv (And.intro hrow (And.intro hi2 (And.intro hi3 hi4))))
      clear hm hv hrow hi2 hi3 hi4
      subst hr
      gi_wp2_with fail
      refine ⟨trivial, ?_⟩
      refine (CallsIn.inRound l (callsIn_wide.2 C3.out)).mono ?_
      rintro e w' ⟨rfl, ew⟩
      rw [ew]
      clear ew
      gi_wp2_with fail
      refine ⟨KeepsFrom.refl _ _, ⟨Below.refl _ _, fun o h => h, fun o h => h⟩, ?_⟩
      dsimp only
      rw [HM.out]
      exact ⟨⟨v, HI.out.1, HI.out.2.1⟩, HI.out.2.2⟩
    · have hm : Lab.mk f M (pre ++ [(c, x, y)]) = Lab.mk f M pre ++ [(c, r)] := by rw [← ER.out]; exact Lab.mk_snoc_hit (by show f x y ≠ M; rw [ER.out]; exact hr)
      have hlen : (Lab.mk f M pre).length ≤ 8796093022207 := by have h1 := Lab.mk_len f M pre; have h2 := Lab.zipm_len D E ps qs; have := HN.out; omega
      have htf : (r != M) = true := by rw [bne_iff_ne]; exact hr
      obtain ⟨k, ek⟩ : ∃ k, (Lab.mk f M pre).length = k := ⟨_, rfl⟩
      obtain ⟨xs, exs⟩ : ∃ xs, F (Lab.mk f M pre) = xs := ⟨_, rfl⟩
      rw [ek, exs] at hrow
      rw [ek] at hlen
      have HM := Lib.hid hm
      have EK := Lib.hid (And.intro ek exs)
      have HV := Lib.hid hv
      have HR := Lib.hid hrow
      have HI := Lib.hid (And.intro hi2 (And.intro hi3 hi4))
      have hws : W3.heap.size ≤ W.heap.size := by obtain ⟨_, hr⟩ := hrec; have := (Array.getElem?_eq_some_iff.1 hr).1; omega
      clear hm hv hrow hi2 hi3 hi4 ek exs hr
      gi_wp2_with fail
      refine ⟨trivial, ?_⟩
      refine (CallsIn.inRound l (callsIn_wide.2 C3.out)).mono ?_
      rintro e w' ⟨rfl, ew⟩
      rw [ew]
      clear ew
      gi_wp2_with (gi_at_builtin; refine wpListIn_append_own _ rfl _ _ 42 rfl W3.heap.size 101 i0 (.agg #[.int .u32 0, .int .i64 0]) 2 16 Try.underlying42 hi hz0 hz1 hz2 rfl (by decide) _ _ _ rfl (HR.out.alloc _) ⟨W.heap.size, 0, none⟩ 1 1 [.int .u32 (c : Int), .int .i64 r] rfl rfl (cell_two_new _ _ _ _) (by simp [Value.oneCell']) (by unfold maxLen; omega) (by omega) (by simp; omega) ?_)
      intro v' w1 hown' hgrow _
      obtain ⟨g', cap', rfl, _, _⟩ := hown'.form (by omega)
      have hkeep : ∀ j, j < W3.heap.size → w1.heap[j]? = W.heap[j]? := fun j hj => by
        rw [hgrow.block j (by simp; omega) (fun e => by have := (HR.out.lt j e.symm).1; omega)]
        exact Below.heap_alloc _ _ _ (by omega)
      have hbl : BL < W3.heap.size := by have := hB1.out; omega
      have hkL : w1.heap[BL]? = some (Obj.cells #[.int .i64 M, v] 44) := by rw [hkeep BL hbl]; exact HV.out
      have k1 : w1.cell? ⟨BL, 1, none⟩ = some v := by rw [cell_of_row _ _ 1 _ 44 (0, 0) hkL]; rfl
      have k2 : w1.frozen? ⟨BL, 1, none⟩ = false := frozen_of_row _ _ 1 _ 44 hkL
      have HKE := Lib.hid hkeep
      have HKL := Lib.hid hkL
      have HOW := Lib.hid hown'
      have HGR := Lib.hid hgrow
      clear hkeep hkL hown' hgrow hbl
      gi_wp2_with fail
      have hBL : w.heap.size ≤ BL ∧ BL < W3.heap.size ∧ B1 ≠ BL ∧ B1 + 1 ≠ BL ∧ B1 + 1 < W3.heap.size ∧ w.heap.size + 1 + 1 + 1 < BL := by have := hB1.out; omega
      obtain ⟨b1, b2, b3, b4, b5, b6⟩ := hBL
      have hN : ∀ j, j < W3.heap.size → j ≠ BL → (w1.setCell ⟨BL, 1, none⟩ (.slice (some ⟨g', 0, none⟩) (k + 1) cap')).heap[j]? = W.heap[j]? := fun j hj hne => by
        rw [heap_setCell_other _ _ _ _ (by simpa using hne)]; exact HKE.out j hj
      have hg' : W3.heap.size ≤ g' := (HOW.out.lt g' rfl).1
      refine ⟨(((KeepsOthers.alloc W _).trans (KeepsOthers.of_grownBy HGR.out fun j o ej hj => ?_)).trans (KeepsOthers.setCell _ _ _)).from _,
        ⟨(((Below.refl w.heap.size W).alloc (by have := HI.out.2.2.size; omega) _).grown HGR.out (by have := HI.out.2.2.size; simp; omega) (fun j ej => by have := (HR.out.lt j ej).1; omega)).setCell (p := ⟨BL, 1, none⟩) b1 _,
          fun o ho => by rw [hN B1 (by omega) b3]; exact ho, fun o ho => by rw [hN (B1 + 1) b5 b4]; exact ho⟩, ?_⟩
      · rcases (HR.out.alloc (Obj.cells #[.int .u32 (c : Int), .int .i64 r] 101)).2 with ⟨rfl, _⟩ | ⟨gx, capx, cur, rfl, _, hgb, _⟩
        · simp [Value.ownBlock] at ej
        · obtain rfl : gx = j := by simpa [Value.ownBlock] using ej
          rw [hgb] at hj; cases hj; rfl
      · dsimp only
        have hfinal := (((Below.refl w.heap.size W).alloc (by have := HI.out.2.2.size; omega) _).grown HGR.out (by have := HI.out.2.2.size; simp; omega) (fun j ej => by have := (HR.out.lt j ej).1; omega)).setCell (p := ⟨BL, 1, none⟩) b1 (.slice (some ⟨g', 0, none⟩) (k + 1) cap')
        refine ⟨⟨.slice (some ⟨g', 0, none⟩) (k + 1) cap', ?_, ?_⟩, by rw [hN _ (by omega) (by omega)]; exact HI.out.1, by rw [hN _ (by omega) (by omega)]; exact HI.out.2.1, HI.out.2.2.trans hfinal⟩
        · have := heap_setCell_same w1 BL 1 _ 44 (.slice (some ⟨g', 0, none⟩) (k + 1) cap') HKL.out
          simpa using this
        · rw [HM.out, F_snoc, EK.out.2, List.length_append, EK.out.1]
          exact owns_set HOW.out ⟨BL, 1, none⟩ _ (by simp [Value.ownBlock]; omega)
  case done =>
    rintro D' ys W hD rfl ⟨⟨v, hv, hrow⟩, hi2, hi3, hi4⟩ hK
    have hBL : w.heap.size ≤ BL ∧ BL < W3.heap.size ∧ w.heap.size + 1 + 1 + 1 < BL := by have := hB1.out; omega
    obtain ⟨b1, b2, b3⟩ := hBL
    have hform : v = .slice none 0 0 ∨ ∃ g' n' cap', v = .slice (some ⟨g', 0, none⟩) n' cap' ∧ W3.heap.size ≤ g' := by
      rcases hrow.2 with ⟨h, _⟩ | ⟨g', cap', cur, h, hg, _⟩
      · exact .inl h
      · exact .inr ⟨_, _, _, h, hg⟩
    have hne : some (w.heap.size + 1 + 1 + 1) ≠ v.ownBlock := by intro e; have := (hrow.lt _ e.symm).1; omega
    obtain ⟨c0, _, _, _, _, c1⟩ := old2 W BL 44 _ _ (.int .i64 M) v hv
    obtain ⟨s0, s1, s2, s3, s4, _⟩ := old2 W (w.heap.size + 1 + 1 + 1) 44 _ _ (.int .i64 M) v hi3
    obtain ⟨Z, eZ⟩ : ∃ Z, Lab.mk f M (Lab.zipm D E ps qs) = Z := ⟨_, rfl⟩
    rw [eZ] at hrow
    have EZ := Lib.hid eZ
    clear eZ
    have hfin : ((W.setCell ⟨w.heap.size + 1 + 1 + 1, 0, none⟩ (.int .i64 M)).setCell ⟨w.heap.size + 1 + 1 + 1, 1, none⟩ v).ownsRow w.heap.size 101 2 v Z.length (F Z) :=
      owns_mono (owns_set (owns_set hrow _ _ hne) _ _ hne) hb3w.size
    have hbf : Below w.heap.size w ((W.setCell ⟨w.heap.size + 1 + 1 + 1, 0, none⟩ (.int .i64 M)).setCell ⟨w.heap.size + 1 + 1 + 1, 1, none⟩ v) := (hi4.setCell (by simp <;> omega) _).setCell (by simp <;> omega) _
    have hKf := ((KeepsOthers.setCell W ⟨w.heap.size + 1 + 1 + 1, 0, none⟩ (.int .i64 M)).trans (KeepsOthers.setCell _ ⟨w.heap.size + 1 + 1 + 1, 1, none⟩ v)).same D' _ hK rfl
    have HFIN := Lib.hid hfin
    have HBF := Lib.hid hbf
    have HKF := Lib.hid hKf
    have S4 := Lib.hid s4
    have hD' : w.heap.size + 1 + 1 + 1 ≠ D' ∧ w.heap.size ≤ D' := by have := hb3w.size; omega
    clear hfin hbf hKf s4 hrow hv hi3 hK hne
    rcases hform with rfl | ⟨g', n', cap', rfl, _⟩
    all_goals
      gi_wp2
      go_wp2_with fail
      refine ⟨by simp, .inl ⟨_, _, rfl, run_takeDeferred HKF.out, ?_⟩⟩
      refine ⟨_, results_cell_row (by rfl) _ _ (w.heap.size + 1 + 1 + 1) 44 _ (0, 0) _ (by rfl) ((World.putObj_heap_other hD'.1).trans S4.out) Try.underlying44 rfl info24, _, rfl, fun m hm => ?_, HBF.out.trans (belowK_b (w := w) (Nat.le_refl _) _ D' _ _ hD'.2 HKF.out rfl rfl)⟩
      rw [hm, EZ.out]
      exact ownsRow_putObj HFIN.out _ HKF.out rfl
  case stop =>
    rintro D' c pre W hD hpre h hK
    exact h.elim
end Go.Proofs.Ytodionedjokdmaa
