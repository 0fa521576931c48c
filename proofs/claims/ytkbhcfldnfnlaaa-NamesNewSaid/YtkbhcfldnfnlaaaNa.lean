/- Ranges of names in memory: what each call does. -/
import Derived.Test.YtkbhcfldnfnlaaaVa
import Derived.StillTailTactics
import Derived.BigRegion
set_option linter.unusedVariables false
set_option linter.unusedSimpArgs false
namespace Go.Proofs.Ytkbhcfldnfnlaaa
open Go.RowKit
set_option linter.unusedVariables false
set_option linter.unusedSimpArgs false
variable {w w' : World} {b o c : Nat} {l n u m x y k : Int}
/-- The range at ⟨b, o⟩. -/
structure PV (w : World) (b o : Nat) (l n u : Int) : Prop where
  c0 : w.cell? ⟨b, o, none⟩ = some (.int .u64 l)
  c1 : w.cell? ⟨b, o + 1, none⟩ = some (.int .u64 n)
  c2 : w.cell? ⟨b, o + 2, none⟩ = some (.int .u64 u)
  f0 : w.frozen? ⟨b, o, none⟩ = false
  f1 : w.frozen? ⟨b, o + 1, none⟩ = false
  f2 : w.frozen? ⟨b, o + 2, none⟩ = false
theorem PV.lt (h : PV w b o l n u) : b < w.heap.size := World.block_lt_of_cell? w _ h.c0
theorem PV.below (h : PV w b o l n u) (hb : Below w.heap.size w w') : PV w' b o l n u :=
  ⟨by rw [hb.cell (p := ⟨b, _, none⟩) h.lt]; exact h.c0, by rw [hb.cell (p := ⟨b, _, none⟩) h.lt]; exact h.c1, by rw [hb.cell (p := ⟨b, _, none⟩) h.lt]; exact h.c2,
   by rw [hb.frozen (p := ⟨b, _, none⟩) h.lt]; exact h.f0, by rw [hb.frozen (p := ⟨b, _, none⟩) h.lt]; exact h.f1, by rw [hb.frozen (p := ⟨b, _, none⟩) h.lt]; exact h.f2⟩
theorem PV.drew (h : PV w b o l n u) : PV w.drew b o l n u := ⟨h.c0, h.c1, h.c2, h.f0, h.f1, h.f2⟩
/-- The same cell is stored to above. -/
theorem below_both {B : Nat} (h : Below B w w') (p : Addr) (v : Value) : Below B (w.setCell p v) (w'.setCell p v) :=
  ⟨h.os, h.tape, h.output, by simpa using h.size, fun k hk => by simp only [World.setCell, Array.getElem?_modify]; split <;> rw [h.block k hk]⟩
theorem below_dN (w : World) (n : Nat) : Below w.heap.size w (w.drewN n) := ⟨rfl, rfl, rfl, Nat.le_refl _, fun _ _ => rfl⟩
theorem info3 : (Try.prog.info? 26).map (·.size) = some 3 := by kernel_rfl
theorem load3 (w : World) (g : Nat) (t : TypeId) (cs : Array Value) (fr : Nat × Nat) (hg : w.heap[g]? = some (.cells cs t fr)) (hs : cs.size = 3) :
    (loadVar 26 ⟨g, 0, none⟩).run Try.prog w = .ok (.agg cs) w := run_loadVar_row w g t 26 cs fr _ hg Try.underlying26 rfl (by rw [hs]; exact info3)
theorem results_cell3 {fn : Func} {p q : Tmp} (h : fn.results = #[.cell p 26, .tmp q]) (tmps : Array Value) (w : World) (g : Nat) (t : TypeId) (cs : Array Value) (fr : Nat × Nat)
    (hp : tmps.getD p undef = .pointer (some ⟨g, 0, none⟩)) (hg : w.heap[g]? = some (.cells cs t fr)) (hs : cs.size = 3) :
    (results fn tmps).run Try.prog w = .ok (.tuple #[.agg cs, tmps.getD q undef]) w := by
  have hp' : tmps[p]?.getD undef = .pointer (some ⟨g, 0, none⟩) := by simpa using hp
  simp [results, h, hp', asAddr, load3 w g t cs fr hg hs]
/-- Three cells are stored. -/
def set3 (w : World) (R : Nat) (b0 b1 b2 : Value) : World := ((w.setCell ⟨R, 0, none⟩ b0).setCell ⟨R, 1, none⟩ b1).setCell ⟨R, 2, none⟩ b2
theorem set3_heap {w : World} {R : Nat} {a0 a1 a2 : Value} {t : TypeId} (h : w.heap[R]? = some (.cells #[a0, a1, a2] t)) (b0 b1 b2 : Value) :
    (set3 w R b0 b1 b2).heap[R]? = some (.cells #[b0, b1, b2] t) := by
  have h0 := heap_setCell_same _ _ 0 _ t b0 h
  have h1 := heap_setCell_same _ _ 1 _ t b1 h0
  exact heap_setCell_same _ _ 2 _ t b2 h1
theorem set3_below {X w : World} {B R : Nat} (h : Below B X w) (hR : B ≤ R) (b0 b1 b2 : Value) : Below B X (set3 w R b0 b1 b2) :=
  ((h.setCell hR b0).setCell hR b1).setCell hR b2
section
variable {W : World} {b' i : Nat} {v : Value}
theorem PV.new (w : World) (l n u : Int) : PV (w.alloc (Obj.cells #[.int .u64 l, .int .u64 n, .int .u64 u] 26)) w.heap.size 0 l n u :=
  have h := heap_alloc_new w (Obj.cells #[.int .u64 l, .int .u64 n, .int .u64 u] 26)
  ⟨by rw [cell_of_row _ _ 0 _ _ _ h]; rfl, by rw [cell_of_row _ _ 1 _ _ _ h]; rfl, by rw [cell_of_row _ _ 2 _ _ _ h]; rfl, frozen_of_row _ _ _ _ _ h, frozen_of_row _ _ _ _ _ h, frozen_of_row _ _ _ _ _ h⟩
theorem below_sz {a : Addr} (h : Below w.heap.size (w.setCell a v) w') : Below (w.setCell a v).heap.size (w.setCell a v) w' := by rw [World.size_setCell]; exact h
theorem set_of (a : Addr) (v : Value) {p : Addr} {x : Value} (h : w.cell? p = some x) (hne : a ≠ p) : (w.setCell a v).cell? p = some x := by rw [World.cell?_setCell_other _ _ _ _ hne]; exact h
theorem PV.other (h : PV w b o l n u) (hb : Below w.heap.size (w.setCell ⟨b', i, none⟩ v) w') (hne : b = b' → i < o ∨ o + 2 < i) : PV w' b o l n u := by
  have hn : ∀ k, k ≤ 2 → (⟨b', i, none⟩ : Addr) ≠ ⟨b, o + k, none⟩ := fun k hk e => by
    injection e with e1 e2
    rcases hne e1.symm with h | h <;> omega
  exact PV.below (⟨set_of _ _ h.c0 (hn 0 (by omega)), set_of _ _ h.c1 (hn 1 (by omega)), set_of _ _ h.c2 (hn 2 (by omega)), by rw [World.frozen?_setCell]; exact h.f0, by rw [World.frozen?_setCell]; exact h.f1, by rw [World.frozen?_setCell]; exact h.f2⟩ : PV (w.setCell ⟨b', i, none⟩ v) b o l n u) (below_sz hb)
theorem off_ne {j k : Nat} (hjk : j ≠ k) : (⟨b, o + j, none⟩ : Addr) ≠ ⟨b, o + k, none⟩ := fun e => by injection e with _ e2; omega
theorem PV.put0 (h : PV w b o l n u) (hb : Below w.heap.size (w.setCell ⟨b, o, none⟩ (.int .u64 x)) w') : PV w' b o x n u :=
  PV.below (⟨World.cell?_setCell_same _ _ _ h.c0, set_of _ _ h.c1 (off_ne (j := 0) (by omega)), set_of _ _ h.c2 (off_ne (j := 0) (by omega)), by rw [World.frozen?_setCell]; exact h.f0, by rw [World.frozen?_setCell]; exact h.f1, by rw [World.frozen?_setCell]; exact h.f2⟩ : PV (w.setCell ⟨b, o, none⟩ (.int .u64 x)) b o x n u) (below_sz hb)
theorem PV.put1 (h : PV w b o l n u) (hb : Below w.heap.size (w.setCell ⟨b, o + 1, none⟩ (.int .u64 x)) w') : PV w' b o l x u :=
  PV.below (⟨set_of _ _ h.c0 (off_ne (k := 0) (by omega)), World.cell?_setCell_same _ _ _ h.c1, set_of _ _ h.c2 (off_ne (by omega)), by rw [World.frozen?_setCell]; exact h.f0, by rw [World.frozen?_setCell]; exact h.f1, by rw [World.frozen?_setCell]; exact h.f2⟩ : PV (w.setCell ⟨b, o + 1, none⟩ (.int .u64 x)) b o l x u) (below_sz hb)
theorem PV.put2 (h : PV w b o l n u) (hb : Below w.heap.size (w.setCell ⟨b, o + 2, none⟩ (.int .u64 x)) w') : PV w' b o l n x :=
  PV.below (⟨set_of _ _ h.c0 (off_ne (k := 0) (by omega)), set_of _ _ h.c1 (off_ne (by omega)), World.cell?_setCell_same _ _ _ h.c2, by rw [World.frozen?_setCell]; exact h.f0, by rw [World.frozen?_setCell]; exact h.f1, by rw [World.frozen?_setCell]; exact h.f2⟩ : PV (w.setCell ⟨b, o + 2, none⟩ (.int .u64 x)) b o l n x) (below_sz hb)
/-- A store to a block since W. -/
theorem below_put (h : Below W.heap.size W w) (hb : W.heap.size ≤ b) (hs : Below w.heap.size (w.setCell ⟨b, i, none⟩ v) w') : Below W.heap.size W w' := (h.setCell (p := ⟨b, i, none⟩) hb v).trans (hs.mono h.size)
theorem below_put2 {b2 i2 : Nat} {v2 : Value} (h : Below W.heap.size W w) (hb : W.heap.size ≤ b) (hb2 : W.heap.size ≤ b2) (hs : Below w.heap.size ((w.setCell ⟨b, i, none⟩ v).setCell ⟨b2, i2, none⟩ v2) w') : Below W.heap.size W w' :=
  ((h.setCell (p := ⟨b, i, none⟩) hb v).setCell (p := ⟨b2, i2, none⟩) hb2 v2).trans (hs.mono h.size)
theorem below_up (h : Below W.heap.size W w) (hs : Below w.heap.size w w') : Below W.heap.size W w' := h.trans (hs.mono h.size)
end
/-- A range that may be. -/
def Ok (l n u : Int) : Prop := 1 ≤ l ∧ l ≤ n ∧ n ≤ u ∧ u ≤ 4194304
theorem left_ok (hk : Ok l n u) (w : World) : Calls Try.prog 12 #[.agg #[.int .u64 l, .int .u64 n, .int .u64 u]] w fun e w' => e = .returned (.int .i64 (u - n)) ∧ Below w.heap.size w w' := by
  have hb := Lib.hid (below_alloc1 w (Obj.cells #[.int .u64 l, .int .u64 n, .int .u64 u] 26))
  obtain ⟨r, er⟩ : ∃ r, u - n = r := ⟨_, rfl⟩
  have e1 : IntKind.u64.wrap (u - n) = r := by unfold Ok at hk; rw [IntKind.wrap_u64]; omega
  have e2 : IntKind.i64.wrap r = r := by unfold Ok at hk; rw [IntKind.wrap_i64]; omega
  rw [er]
  clear er hk
  go_enter Try.func12, Try.ntmps12
  go_wp2_with fail
  go_ret
  exact ⟨rfl, hb.out⟩
/-- May be, as Right reckons it. -/
def rt (l n u : Int) : Bool := decide (1 ≤ l) && (decide (l ≤ n) && (decide (n ≤ u) && decide (u ≤ 4194304)))
theorem right_any (l n u : Int) (w : World) : Calls Try.prog 11 #[.agg #[.int .u64 l, .int .u64 n, .int .u64 u]] w fun e w' => e = .returned (.bool (rt l n u)) ∧ Below w.heap.size w w' := by
  have hb := Lib.hid (below_alloc1 w (Obj.cells #[.int .u64 l, .int .u64 n, .int .u64 u] 26))
  by_cases h1 : 1 ≤ l
  · by_cases h2 : l ≤ n
    · by_cases h3 : n ≤ u
      · have hR : Hid (rt l n u = decide (u ≤ 4194304)) := Lib.hid (by unfold rt; simp [h1, h2, h3])
        obtain ⟨q, eq⟩ : ∃ q, decide (u ≤ 4194304) = q := ⟨_, rfl⟩
        rw [eq] at hR
        go_enter Try.func11, Try.ntmps11
        go_wp2_with fail
        go_ret
        exact ⟨by rw [hR.out]; rfl, hb.out⟩
      · have hR : Hid (rt l n u = false) := Lib.hid (by unfold rt; simp [h3])
        go_enter Try.func11, Try.ntmps11
        go_wp2_with fail
        go_ret
        exact ⟨by rw [hR.out]; rfl, hb.out⟩
    · have hR : Hid (rt l n u = false) := Lib.hid (by unfold rt; simp [h2])
      go_enter Try.func11, Try.ntmps11
      go_wp2_with fail
      go_ret
      exact ⟨by rw [hR.out]; rfl, hb.out⟩
  · have hR : Hid (rt l n u = false) := Lib.hid (by unfold rt; simp [h1])
    go_enter Try.func11, Try.ntmps11
    go_wp2_with fail
    go_ret
    exact ⟨by rw [hR.out]; rfl, hb.out⟩
theorem given_any (l n u x : Int) (w : World) : Calls Try.prog 13 #[.agg #[.int .u64 l, .int .u64 n, .int .u64 u], .int .u64 x] w fun e w' => e = .returned (.bool (decide (l ≤ x) && decide (x < n))) ∧ Below w.heap.size w w' := by
  have hb := Lib.hid (below_alloc1 w (Obj.cells #[.int .u64 l, .int .u64 n, .int .u64 u] 26))
  by_cases h1 : l ≤ x
  · have hR : Hid ((decide (l ≤ x) && decide (x < n)) = decide (x < n)) := Lib.hid (by simp [h1])
    rw [hR.out]
    obtain ⟨q, eq⟩ : ∃ q, decide (x < n) = q := ⟨_, rfl⟩
    rw [eq]
    go_enter Try.func13, Try.ntmps13
    go_wp2_with fail
    go_ret
    exact ⟨rfl, hb.out⟩
  · have hR : Hid ((decide (l ≤ x) && decide (x < n)) = false) := Lib.hid (by simp [h1])
    rw [hR.out]
    go_enter Try.func13, Try.ntmps13
    go_wp2_with fail
    go_ret
    exact ⟨rfl, hb.out⟩
theorem right_ok (hk : Ok l n u) (w : World) : Calls Try.prog 11 #[.agg #[.int .u64 l, .int .u64 n, .int .u64 u]] w fun e w' => e = .returned (.bool true) ∧ Below w.heap.size w w' := by
  have := right_any l n u w
  obtain ⟨h1, h2, h3, h4⟩ := hk
  rw [show rt l n u = true by unfold rt; simp [h1, h2, h3, h4]] at this
  exact this
theorem take_none (hn : ¬ n < u) (h : PV w b o l n u) : Calls Try.prog 9 #[.pointer (some ⟨b, o, none⟩)] w fun e w' => e = .returned (.int .u64 0) ∧ Below w.heap.size w w' := by
  have H := Lib.hid h
  obtain ⟨c0, c1, c2, _, _, _⟩ := h
  have h1 : n ≥ u := by omega
  have h2 : u ≤ n := h1
  go_enter Try.func9, Try.ntmps9
  go_wp2_with fail
  go_quiet (fail)
  rename_i nq
  go_wp2_with fail
  go_ret
  exact ⟨rfl, below_dN _ _⟩
theorem take_ok (hk : Ok l n u) (hn : n < u) (h : PV w b o l n u) : Calls Try.prog 9 #[.pointer (some ⟨b, o, none⟩)] w fun e w' => e = .returned (.int .u64 n) ∧ Below w.heap.size (w.setCell ⟨b, o + 1, none⟩ (.int .u64 (n + 1))) w' := by
  have H := Lib.hid h
  obtain ⟨c0, c1, c2, _, _, _⟩ := h
  have h1 : ¬ n ≥ u := by omega
  have h2 : ¬ u ≤ n := h1
  obtain ⟨m, em⟩ : ∃ m, n + 1 = m := ⟨_, rfl⟩
  have e1 : IntKind.u64.wrap (n + 1) = m := by unfold Ok at hk; rw [IntKind.wrap_u64]; omega
  rw [em]
  clear em hk
  go_enter Try.func9, Try.ntmps9
  go_wp2_with fail
  go_quiet (fail)
  rename_i nq
  clear c0 c1 c2
  obtain ⟨c0, c1, c2, f0, f1, f2⟩ := H.out.below (below_dN w nq)
  go_wp2_with fail
  go_ret
  exact ⟨rfl, below_both (below_dN _ _) _ _⟩
theorem split_ok (hk : Ok l n u) (hn : 0 ≤ k ∧ k ≤ u - n) (h : PV w b o l n u) : Calls Try.prog 10 #[.pointer (some ⟨b, o, none⟩), .int .i64 k] w fun e w' => e = .returned (.tuple #[.agg #[.int .u64 (u - k), .int .u64 (u - k), .int .u64 u], .bool true]) ∧ Below w.heap.size (w.setCell ⟨b, o + 2, none⟩ (.int .u64 (u - k))) w' := by
  have H := Lib.hid h
  have hb0 := Lib.hid (below_alloc1 w (Obj.cells #[.int .u64 0, .int .u64 0, .int .u64 0] 26))
  have hz := Lib.hid (heap_alloc_new w (Obj.cells #[.int .u64 0, .int .u64 0, .int .u64 0] 26))
  have C := Lib.hid (fun W => left_ok hk W)
  obtain ⟨r, er⟩ : ∃ r, u - n = r := ⟨_, rfl⟩
  obtain ⟨m, em⟩ : ∃ m, u - k = m := ⟨_, rfl⟩
  have h0 : ¬ k < 0 := by omega
  have h1 : ¬ k > r := by omega
  have h1' : ¬ r < k := by omega
  have e0 : IntKind.u64.wrap k = k := by unfold Ok at hk; rw [IntKind.wrap_u64]; omega
  have e1 : IntKind.u64.wrap (u - k) = m := by unfold Ok at hk; rw [IntKind.wrap_u64]; omega
  rw [er] at C
  rw [em]
  have H1 := Lib.hid (h.below hb0.out)
  obtain ⟨c0, c1, c2, _, _, _⟩ := h.below hb0.out
  have HN : Hid (b ≠ w.heap.size) := Lib.hid (by have := h.lt; omega)
  clear er em hk hn h
  go_enter Try.func10, Try.ntmps10
  go_wp2_with fail
  refine (C.out _).mono ?_; rintro e w1 ⟨rfl, hb⟩
  have HB := Lib.hid hb
  have H2 := Lib.hid (H1.out.below hb)
  have HZ : Hid ((w1.setCell ⟨b, o + 2, none⟩ (.int .u64 m)).heap[w.heap.size]? = some (Obj.cells #[.int .u64 0, .int .u64 0, .int .u64 0] 26)) := Lib.hid ((heap_setCell_other _ _ _ _ (Ne.symm HN.out)).trans ((hb.block _ (by simp)).trans hz.out))
  clear hb c0 c1 c2 C
  obtain ⟨c0, c1, c2, f0, f1, f2⟩ := H2.out
  go_upto_region 5 with fail
  obtain ⟨W2, eW2⟩ : ∃ W2, w1.setCell ⟨b, o + 2, none⟩ (.int .u64 m) = W2 := ⟨_, rfl⟩
  obtain ⟨W3, eW3⟩ : ∃ W3, ({ W2 with drawn := W2.drawn + 1 } : World) = W3 := ⟨_, rfl⟩
  have H3 : Hid (PV W3 b o l n m) := Lib.hid (by rw [← eW3, ← eW2]; exact (H2.out.put2 (Below.refl _ _)).drew)
  have HZ3 : Hid (W3.heap[w.heap.size]? = some (Obj.cells #[.int .u64 0, .int .u64 0, .int .u64 0] 26)) := Lib.hid (by rw [← eW3, ← eW2]; exact HZ.out)
  have HB3 : Hid (Below w.heap.size (w.setCell ⟨b, o + 2, none⟩ (.int .u64 m)) W3) := Lib.hid (by rw [← eW3, ← eW2]; exact (below_both (hb0.out.trans (HB.out.mono (by simp))) _ _).drew)
  rw [eW2]
  clear c0 c1 c2 f0 f1 f2 HB H2 HZ
  obtain ⟨c0, c1, c2, f0, f1, f2⟩ := H3.out
  have z0 : W3.cell? ⟨w.heap.size, 0, none⟩ = some (.int .u64 0) := by rw [cell_of_row _ _ 0 _ _ _ HZ3.out]; rfl
  have z1 : W3.cell? ⟨w.heap.size, 1, none⟩ = some (.int .u64 0) := by rw [cell_of_row _ _ 1 _ _ _ HZ3.out]; rfl
  have z2 : W3.cell? ⟨w.heap.size, 2, none⟩ = some (.int .u64 0) := by rw [cell_of_row _ _ 2 _ _ _ HZ3.out]; rfl
  have g0 := frozen_of_row _ _ 0 _ _ HZ3.out
  have g1 := frozen_of_row _ _ 1 _ _ HZ3.out
  have g2 := frozen_of_row _ _ 2 _ _ HZ3.out
  refine wp_region_still_tail 10 (by kernel_rfl) (by kernel_rfl) ?_
  rw [eW3]
  simp only [List.take_succ_cons, List.take_zero, List.drop_succ_cons, List.drop_zero]
  clear eW3 eW2
  repeat still_step
  refine wpStill_nil ?_
  go_wp2_with fail
  refine bodyPost_ret (results_cell3 (by rfl) _ _ w.heap.size 26 _ (0, 0) (by rfl) (set3_heap HZ3.out (.int .u64 m) (.int .u64 m) (.int .u64 u)) rfl) rfl ⟨rfl, set3_below HB3.out (Nat.le_refl _) _ _ _⟩
theorem split_bad (hk : Ok l n u) (hn : k < 0 ∨ u - n < k) (h : PV w b o l n u) : Calls Try.prog 10 #[.pointer (some ⟨b, o, none⟩), .int .i64 k] w fun e w' => e = .returned (.tuple #[.agg #[.int .u64 0, .int .u64 0, .int .u64 0], .bool false]) ∧ Below w.heap.size w w' := by
  have hb0 := Lib.hid (below_alloc1 w (Obj.cells #[.int .u64 0, .int .u64 0, .int .u64 0] 26))
  have hz := Lib.hid (heap_alloc_new w (Obj.cells #[.int .u64 0, .int .u64 0, .int .u64 0] 26))
  have C := Lib.hid (fun W => left_ok hk W)
  obtain ⟨r, er⟩ : ∃ r, u - n = r := ⟨_, rfl⟩
  rw [er] at C hn
  have H1 := Lib.hid (h.below hb0.out)
  clear er hk h
  by_cases h0 : k < 0
  · clear hn C H1
    go_enter Try.func10, Try.ntmps10
    go_wp2_with fail
    refine bodyPost_ret (results_cell3 (by rfl) _ _ w.heap.size 26 _ (0, 0) (by rfl) hz.out rfl) rfl ⟨rfl, hb0.out⟩
  · have h1 : k > r := by omega
    have h1' : r < k := h1
    obtain ⟨c0, c1, c2, _, _, _⟩ := H1.out
    clear hn
    go_enter Try.func10, Try.ntmps10
    go_wp2_with fail
    refine (C.out _).mono ?_; rintro e w1 ⟨rfl, hb⟩
    have HB := Lib.hid hb
    have HZ : Hid (w1.heap[w.heap.size]? = some (Obj.cells #[.int .u64 0, .int .u64 0, .int .u64 0] 26)) := Lib.hid ((hb.block _ (by simp)).trans hz.out)
    clear hb c0 c1 c2 C
    have z0 : w1.cell? ⟨w.heap.size, 0, none⟩ = some (.int .u64 0) := by rw [cell_of_row _ _ 0 _ _ _ HZ.out]; rfl
    have z1 : w1.cell? ⟨w.heap.size, 1, none⟩ = some (.int .u64 0) := by rw [cell_of_row _ _ 1 _ _ _ HZ.out]; rfl
    have z2 : w1.cell? ⟨w.heap.size, 2, none⟩ = some (.int .u64 0) := by rw [cell_of_row _ _ 2 _ _ _ HZ.out]; rfl
    have g0 := frozen_of_row _ _ 0 _ _ HZ.out
    have g1 := frozen_of_row _ _ 1 _ _ HZ.out
    have g2 := frozen_of_row _ _ 2 _ _ HZ.out
    go_wp2_with fail
    refine bodyPost_ret (results_cell3 (by rfl) _ _ w.heap.size 26 _ (0, 0) (by rfl) (set3_heap HZ.out (.int .u64 0) (.int .u64 0) (.int .u64 0)) rfl) rfl ⟨rfl, set3_below (hb0.out.trans (HB.out.mono (by simp))) (Nat.le_refl _) _ _ _⟩
end Go.Proofs.Ytkbhcfldnfnlaaa
