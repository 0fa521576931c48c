/- Purses in memory: what each call does. -/
import Derived.Test.YtmkjdghjaeolcaaVa
set_option linter.unusedVariables false
set_option linter.unusedSimpArgs false
namespace Go.Proofs.Ytmkjdghjaeolcaa
open Go.RowKit
set_option linter.unusedVariables false
set_option linter.unusedSimpArgs false
variable {w w' : World} {b o c : Nat} {l u g m x y n : Int}
/-- The purse at ⟨b, o⟩. -/
structure PV (w : World) (b o : Nat) (l u g : Int) : Prop where
  c0 : w.cell? ⟨b, o, none⟩ = some (.int .i64 l)
  c1 : w.cell? ⟨b, o + 1, none⟩ = some (.int .i64 u)
  c2 : w.cell? ⟨b, o + 2, none⟩ = some (.int .i64 g)
  f0 : w.frozen? ⟨b, o, none⟩ = false
  f1 : w.frozen? ⟨b, o + 1, none⟩ = false
  f2 : w.frozen? ⟨b, o + 2, none⟩ = false
theorem PV.lt (h : PV w b o l u g) : b < w.heap.size := World.block_lt_of_cell? w _ h.c0
theorem PV.below (h : PV w b o l u g) (hb : Below w.heap.size w w') : PV w' b o l u g :=
  ⟨by rw [hb.cell (p := ⟨b, _, none⟩) h.lt]; exact h.c0, by rw [hb.cell (p := ⟨b, _, none⟩) h.lt]; exact h.c1, by rw [hb.cell (p := ⟨b, _, none⟩) h.lt]; exact h.c2,
   by rw [hb.frozen (p := ⟨b, _, none⟩) h.lt]; exact h.f0, by rw [hb.frozen (p := ⟨b, _, none⟩) h.lt]; exact h.f1, by rw [hb.frozen (p := ⟨b, _, none⟩) h.lt]; exact h.f2⟩
theorem PV.drew (h : PV w b o l u g) : PV w.drew b o l u g := ⟨h.c0, h.c1, h.c2, h.f0, h.f1, h.f2⟩
/-- The same cell is stored to above. -/
theorem below_both {B : Nat} (h : Below B w w') (p : Addr) (v : Value) : Below B (w.setCell p v) (w'.setCell p v) :=
  ⟨h.os, h.tape, h.output, by simpa using h.size, fun k hk => by simp only [World.setCell, Array.getElem?_modify]; split <;> rw [h.block k hk]⟩
theorem info3 : (Try.prog.info? 26).map (·.size) = some 3 := by kernel_rfl
theorem load3 (w : World) (g : Nat) (t : TypeId) (cs : Array Value) (fr : Nat × Nat) (hg : w.heap[g]? = some (.cells cs t fr)) (hs : cs.size = 3) :
    (loadVar 26 ⟨g, 0, none⟩).run Try.prog w = .ok (.agg cs) w := run_loadVar_row w g t 26 cs fr _ hg Try.underlying26 rfl (by rw [hs]; exact info3)
theorem results_cell3 {fn : Func} {p q : Tmp} (h : fn.results = #[.cell p 26, .tmp q]) (tmps : Array Value) (w : World) (g : Nat) (t : TypeId) (cs : Array Value) (fr : Nat × Nat)
    (hp : tmps.getD p undef = .pointer (some ⟨g, 0, none⟩)) (hg : w.heap[g]? = some (.cells cs t fr)) (hs : cs.size = 3) :
    (results fn tmps).run Try.prog w = .ok (.tuple #[.agg cs, tmps.getD q undef]) w := by
  have hp' : tmps[p]?.getD undef = .pointer (some ⟨g, 0, none⟩) := by simpa using hp
  simp [results, h, hp', asAddr, load3 w g t cs fr hg hs]
/-- Three cells are stored. -/
def set3 (w : World) (R : Nat) (b0 b1 b2 : Value) : World := ((w.setCell ⟨R, 0, none⟩ b0).setCell ⟨R, 1, none⟩ b1).setCell ⟨R, 2, none⟩ b2
theorem set3_heap {w : World} {R : Nat} {a0 a1 a2 : Value} {t : TypeId} (h : w.heap[R]? = some (.cells #[a0, a1, a2] t)) (b0 b1 b2 : Value) :
    (set3 w R b0 b1 b2).heap[R]? = some (.cells #[b0, b1, b2] t) := by
  have h0 := heap_setCell_same _ _ 0 _ t b0 h
  have h1 := heap_setCell_same _ _ 1 _ t b1 h0
  exact heap_setCell_same _ _ 2 _ t b2 h1
theorem set3_below {X w : World} {B R : Nat} (h : Below B X w) (hR : B ≤ R) (b0 b1 b2 : Value) : Below B X (set3 w R b0 b1 b2) :=
  ((h.setCell hR b0).setCell hR b1).setCell hR b2
/-- A purse that may be, of no more than 2^61. -/
def Ok (l u g : Int) : Prop := 0 ≤ u ∧ 0 ≤ g ∧ u + g ≤ l ∧ l ≤ 2305843009213693952
theorem Ok.left (h : Ok l u g) : RowKit.wrap64 (l - u) = l - u ∧ RowKit.wrap64 (l - u - g) = l - u - g := by
  obtain ⟨h1, h2, h3, h4⟩ := h
  unfold RowKit.wrap64; omega
theorem left_any (l u g : Int) (w : World) : Calls Try.prog 14 #[.agg #[.int .i64 l, .int .i64 u, .int .i64 g]] w fun e w' => e = .returned (.int .i64 (RowKit.wrap64 (RowKit.wrap64 (l - u) - g))) ∧ Below w.heap.size w w' := by
  have hb := Lib.hid (below_alloc1 w (Obj.cells #[.int .i64 l, .int .i64 u, .int .i64 g] 26))
  go_enter Try.func14, Try.ntmps14
  go_wp2_with fail
  go_ret
  exact ⟨rfl, hb.out⟩
theorem left_ok (h : Ok l u g) (w : World) : Calls Try.prog 14 #[.agg #[.int .i64 l, .int .i64 u, .int .i64 g]] w fun e w' => e = .returned (.int .i64 (l - u - g)) ∧ Below w.heap.size w w' := by
  have := left_any l u g w
  rw [h.left.1, h.left.2] at this
  exact this
theorem min3 {P : Program} (w : World) (ts : Array TypeId) (t : TypeId) (k k' k'' : IntKind) (x y z : Int) : (Builtin.min_ ts t #[.int k x, .int k' y, .int k'' z]).run P w = .ok (.int k (min (min x y) z)) w := by
  have e : ∀ x y : Int, (if y < x then y else x) = min x y := fun x y => by
    rw [Int.min_def]
    split <;> split <;> omega
  simp [Builtin.min_, Builtin.min2, e]
/-- May be, as Right reckons it. -/
def rt (l u g : Int) : Bool := decide (min (min l u) g ≥ 0) && decide (g ≤ RowKit.wrap64 (l - u))
theorem right_any (l u g : Int) (w : World) : Calls Try.prog 15 #[.agg #[.int .i64 l, .int .i64 u, .int .i64 g]] w fun e w' => e = .returned (.bool (rt l u g)) ∧ Below w.heap.size w w' := by
  have hb := Lib.hid (below_alloc1 w (Obj.cells #[.int .i64 l, .int .i64 u, .int .i64 g] 26))
  have hm := @min3 Try.prog
  obtain ⟨m, em⟩ : ∃ m, min (min l u) g = m := ⟨_, rfl⟩
  have hR : Hid (rt l u g = (decide (m ≥ 0) && decide (g ≤ RowKit.wrap64 (l - u)))) := Lib.hid (by unfold rt; rw [em])
  by_cases h0 : m ≥ 0
  · have h1 : 0 ≤ m := h0
    have hR : Hid (rt l u g = decide (g ≤ RowKit.wrap64 (l - u))) := Lib.hid (by rw [hR.out, decide_eq_true h0]; rfl)
    go_enter Try.func15, Try.ntmps15
    go_wp2_with fail
    go_ret
    exact ⟨by rw [hR.out]; rfl, hb.out⟩
  · have h1 : ¬ 0 ≤ m := h0
    have hR : Hid (rt l u g = false) := Lib.hid (by rw [hR.out, decide_eq_false h0]; rfl)
    go_enter Try.func15, Try.ntmps15
    go_wp2_with fail
    go_ret
    exact ⟨by rw [hR.out]; rfl, hb.out⟩
theorem rt_ok (h : Ok l u g) : rt l u g = true := by
  unfold rt
  rw [h.left.1]
  obtain ⟨h1, h2, h3, h4⟩ := h
  rw [decide_eq_true (show min (min l u) g ≥ 0 by omega), decide_eq_true (show g ≤ l - u by omega)]
  rfl
/-- What Take and Give say. -/
def tk (l u g n : Int) : Int := if n < 0 then 1 else if l - u - g < n then 5 else 0
theorem tk_sum {n : Int} (hk : Ok l u g) (hn : tk l u g n = 0) : RowKit.wrap64 (u + n) = u + n ∧ RowKit.wrap64 (g + n) = g + n := by
  unfold tk at hn
  obtain ⟨h1, h2, h3, h4⟩ := hk
  unfold RowKit.wrap64
  by_cases h0 : n < 0
  · rw [if_pos h0] at hn; cases hn
  · rw [if_neg h0] at hn
    by_cases h5 : l - u - g < n
    · rw [if_pos h5] at hn; cases hn
    · omega
theorem spare_any (n : Int) (hk : Ok l u g) (h : PV w b o l u g) : Calls Try.prog 17 #[.pointer (some ⟨b, o, none⟩), .int .i64 n] w fun e w' => e = .returned (.int .i64 (tk l u g n)) ∧ Below w.heap.size w w' := by
  have C := Lib.hid (left_ok hk w)
  obtain ⟨r, er⟩ : ∃ r, l - u - g = r := ⟨_, rfl⟩
  have hT : Hid (tk l u g n = if n < 0 then 1 else if r < n then 5 else 0) := Lib.hid (by unfold tk; rw [er])
  rw [er] at C
  obtain ⟨c0, c1, c2, _, _, _⟩ := h
  clear hk er
  by_cases h0 : n < 0
  · have hT : Hid (tk l u g n = 1) := Lib.hid (by rw [hT.out, if_pos h0])
    go_enter Try.func17, Try.ntmps17
    go_wp2_with fail
    go_ret
    exact ⟨by rw [hT.out]; rfl, Below.refl _ _⟩
  · by_cases h1 : r < n
    · have h2 : n > r := h1
      have hT : Hid (tk l u g n = 5) := Lib.hid (by rw [hT.out, if_neg h0, if_pos h1])
      go_enter Try.func17, Try.ntmps17
      go_wp2_with fail
      refine C.out.mono ?_; rintro e w1 ⟨rfl, hb⟩
      go_wp2_with fail
      go_ret
      exact ⟨by rw [hT.out]; rfl, hb⟩
    · have h2 : ¬ n > r := h1
      have hT : Hid (tk l u g n = 0) := Lib.hid (by rw [hT.out, if_neg h0, if_neg h1])
      go_enter Try.func17, Try.ntmps17
      go_wp2_with fail
      refine C.out.mono ?_; rintro e w1 ⟨rfl, hb⟩
      go_wp2_with fail
      go_ret
      exact ⟨by rw [hT.out]; rfl, hb⟩
theorem take_bad (n : Int) (hk : Ok l u g) (h : PV w b o l u g) (hn : tk l u g n ≠ 0) : Calls Try.prog 8 #[.pointer (some ⟨b, o, none⟩), .int .i64 n] w fun e w' => e = .returned (.int .i64 (tk l u g n)) ∧ Below w.heap.size w w' := by
  have C := Lib.hid (spare_any n hk h)
  obtain ⟨r, er⟩ : ∃ r, tk l u g n = r := ⟨_, rfl⟩
  rw [er] at C hn ⊢
  clear er h hk
  go_enter Try.func8, Try.ntmps8
  go_wp2_with fail
  refine C.out.mono ?_; rintro e w1 ⟨rfl, hb⟩
  go_wp2_with fail
  go_ret
  exact ⟨rfl, hb⟩
theorem take_ok (n : Int) (hk : Ok l u g) (h : PV w b o l u g) (hn : tk l u g n = 0) : Calls Try.prog 8 #[.pointer (some ⟨b, o, none⟩), .int .i64 n] w fun e w' => e = .returned (.int .i64 0) ∧ Below w.heap.size (w.setCell ⟨b, o + 1, none⟩ (.int .i64 (u + n))) w' := by
  have C := Lib.hid (spare_any n hk h)
  rw [hn] at C
  have HI := Lib.hid (tk_sum hk hn).1
  have H := Lib.hid h
  clear h hk hn
  go_enter Try.func8, Try.ntmps8
  go_wp2_with fail
  refine C.out.mono ?_; rintro e w1 ⟨rfl, hb⟩
  obtain ⟨c0, c1, c2, f0, f1, f2⟩ := H.out.below hb
  clear C
  go_wp2_with fail
  go_ret
  exact ⟨rfl, by rw [HI.out]; exact below_both hb _ _⟩
theorem give_bad (n : Int) (hk : Ok l u g) (h : PV w b o l u g) (hn : tk l u g n ≠ 0) : Calls Try.prog 10 #[.pointer (some ⟨b, o, none⟩), .int .i64 n] w fun e w' => e = .returned (.tuple #[.agg #[.int .i64 0, .int .i64 0, .int .i64 0], .int .i64 (tk l u g n)]) ∧ Below w.heap.size w w' := by
  have hb0 := Lib.hid (below_alloc1 w (Obj.cells #[.int .i64 0, .int .i64 0, .int .i64 0] 26))
  have hz := Lib.hid (heap_alloc_new w (Obj.cells #[.int .i64 0, .int .i64 0, .int .i64 0] 26))
  have C := Lib.hid (spare_any n hk (h.below hb0.out))
  obtain ⟨r, er⟩ : ∃ r, tk l u g n = r := ⟨_, rfl⟩
  rw [er] at C hn ⊢
  clear er h hk
  go_enter Try.func10, Try.ntmps10
  go_wp2_with fail
  refine C.out.mono ?_; rintro e w1 ⟨rfl, hb⟩
  have HB := Lib.hid hb
  have HZ : Hid (w1.heap[w.heap.size]? = some (Obj.cells #[.int .i64 0, .int .i64 0, .int .i64 0] 26)) := Lib.hid ((hb.block _ (by simp)).trans hz.out)
  have c0 : w1.cell? ⟨w.heap.size, 0, none⟩ = some (.int .i64 0) := by rw [cell_of_row _ _ 0 _ _ _ HZ.out]; rfl
  have c1 : w1.cell? ⟨w.heap.size, 1, none⟩ = some (.int .i64 0) := by rw [cell_of_row _ _ 1 _ _ _ HZ.out]; rfl
  have c2 : w1.cell? ⟨w.heap.size, 2, none⟩ = some (.int .i64 0) := by rw [cell_of_row _ _ 2 _ _ _ HZ.out]; rfl
  have f0 := frozen_of_row _ _ 0 _ _ HZ.out
  have f1 := frozen_of_row _ _ 1 _ _ HZ.out
  have f2 := frozen_of_row _ _ 2 _ _ HZ.out
  have hr0 : ¬ r = 0 := hn
  clear hb C
  go_wp2_with fail
  refine bodyPost_ret (results_cell3 (by rfl) _ _ w.heap.size 26 _ (0, 0) (by rfl) (set3_heap HZ.out (.int .i64 0) (.int .i64 0) (.int .i64 0)) rfl) rfl ⟨rfl, set3_below (hb0.out.trans (HB.out.mono (by simp))) (Nat.le_refl _) _ _ _⟩
theorem give_ok (n : Int) (hk : Ok l u g) (h : PV w b o l u g) (hn : tk l u g n = 0) : Calls Try.prog 10 #[.pointer (some ⟨b, o, none⟩), .int .i64 n] w fun e w' => e = .returned (.tuple #[.agg #[.int .i64 n, .int .i64 0, .int .i64 0], .int .i64 0]) ∧ Below w.heap.size (w.setCell ⟨b, o + 2, none⟩ (.int .i64 (g + n))) w' := by
  have hb0 := Lib.hid (below_alloc1 w (Obj.cells #[.int .i64 0, .int .i64 0, .int .i64 0] 26))
  have hz := Lib.hid (heap_alloc_new w (Obj.cells #[.int .i64 0, .int .i64 0, .int .i64 0] 26))
  have C := Lib.hid (spare_any n hk (h.below hb0.out))
  rw [hn] at C
  have HI := Lib.hid (tk_sum hk hn).2
  have H := Lib.hid (h.below hb0.out)
  have HN : Hid (b ≠ w.heap.size) := Lib.hid (by have := h.lt; omega)
  clear h hk hn
  go_enter Try.func10, Try.ntmps10
  go_wp2_with fail
  refine C.out.mono ?_; rintro e w1 ⟨rfl, hb⟩
  have HB := Lib.hid hb
  obtain ⟨q0, q1, q2, g0, g1, g2⟩ := H.out.below hb
  have HZ : Hid ((w1.setCell ⟨b, o + 2, none⟩ (.int .i64 (g + n))).heap[w.heap.size]? = some (Obj.cells #[.int .i64 0, .int .i64 0, .int .i64 0] 26)) := Lib.hid ((heap_setCell_other _ _ _ _ (Ne.symm HN.out)).trans ((hb.block _ (by simp)).trans hz.out))
  have c0 : (w1.setCell ⟨b, o + 2, none⟩ (.int .i64 (g + n))).cell? ⟨w.heap.size, 0, none⟩ = some (.int .i64 0) := by rw [cell_of_row _ _ 0 _ _ _ HZ.out]; rfl
  have c1 : (w1.setCell ⟨b, o + 2, none⟩ (.int .i64 (g + n))).cell? ⟨w.heap.size, 1, none⟩ = some (.int .i64 0) := by rw [cell_of_row _ _ 1 _ _ _ HZ.out]; rfl
  have c2 : (w1.setCell ⟨b, o + 2, none⟩ (.int .i64 (g + n))).cell? ⟨w.heap.size, 2, none⟩ = some (.int .i64 0) := by rw [cell_of_row _ _ 2 _ _ _ HZ.out]; rfl
  have f0 := frozen_of_row _ _ 0 _ _ HZ.out
  have f1 := frozen_of_row _ _ 1 _ _ HZ.out
  have f2 := frozen_of_row _ _ 2 _ _ HZ.out
  have i1 : RowKit.wrap64 (g + n) = g + n := HI.out
  clear hb C
  go_wp2_with fail
  refine bodyPost_ret (results_cell3 (by rfl) _ _ w.heap.size 26 _ (0, 0) (by rfl) (set3_heap HZ.out (.int .i64 n) (.int .i64 0) (.int .i64 0)) rfl) rfl ⟨rfl, set3_below (below_both (hb0.out.trans (HB.out.mono (by simp))) _ _) (Nat.le_refl _) _ _ _⟩
theorem back_bad (n : Int) (h : PV w b o l u g) (hn : n < 0 ∨ u < n) : Calls Try.prog 9 #[.pointer (some ⟨b, o, none⟩), .int .i64 n] w fun e w' => e = .returned (.int .i64 1) ∧ Below w.heap.size w w' := by
  obtain ⟨c0, c1, c2, f0, f1, f2⟩ := h
  by_cases h0 : n < 0
  · clear hn
    go_enter Try.func9, Try.ntmps9
    go_wp2_with fail
    go_ret
    exact ⟨rfl, Below.refl _ _⟩
  · have h1 : n > u := by omega
    have h2 : u < n := by omega
    clear hn
    go_enter Try.func9, Try.ntmps9
    go_wp2_with fail
    go_ret
    exact ⟨rfl, Below.refl _ _⟩
theorem back_ok (n : Int) (hk : Ok l u g) (h : PV w b o l u g) (hn : 0 ≤ n ∧ n ≤ u) : Calls Try.prog 9 #[.pointer (some ⟨b, o, none⟩), .int .i64 n] w fun e w' => e = .returned (.int .i64 0) ∧ Below w.heap.size (w.setCell ⟨b, o + 1, none⟩ (.int .i64 (u - n))) w' := by
  obtain ⟨c0, c1, c2, f0, f1, f2⟩ := h
  have h0 : ¬ n < 0 := by omega
  have h1 : ¬ n > u := by omega
  have HI : Hid (RowKit.wrap64 (u - n) = u - n) := Lib.hid (by
    obtain ⟨h1, h2, h3, h4⟩ := hk
    unfold RowKit.wrap64; omega)
  clear hk hn
  go_enter Try.func9, Try.ntmps9
  go_wp2_with fail
  go_ret
  exact ⟨rfl, by rw [HI.out]; exact Below.refl _ _⟩
theorem return_bad (n : Int) (h : PV w b o l u g) (hn : n < 0 ∨ g < n) : Calls Try.prog 11 #[.pointer (some ⟨b, o, none⟩), .int .i64 n] w fun e w' => e = .returned (.int .i64 1) ∧ Below w.heap.size w w' := by
  obtain ⟨c0, c1, c2, f0, f1, f2⟩ := h
  by_cases h0 : n < 0
  · clear hn
    go_enter Try.func11, Try.ntmps11
    go_wp2_with fail
    go_ret
    exact ⟨rfl, Below.refl _ _⟩
  · have h1 : n > g := by omega
    have h2 : g < n := by omega
    clear hn
    go_enter Try.func11, Try.ntmps11
    go_wp2_with fail
    go_ret
    exact ⟨rfl, Below.refl _ _⟩
theorem return_ok (n : Int) (hk : Ok l u g) (h : PV w b o l u g) (hn : 0 ≤ n ∧ n ≤ g) : Calls Try.prog 11 #[.pointer (some ⟨b, o, none⟩), .int .i64 n] w fun e w' => e = .returned (.int .i64 0) ∧ Below w.heap.size (w.setCell ⟨b, o + 2, none⟩ (.int .i64 (g - n))) w' := by
  obtain ⟨c0, c1, c2, f0, f1, f2⟩ := h
  have h0 : ¬ n < 0 := by omega
  have h1 : ¬ n > g := by omega
  have HI : Hid (RowKit.wrap64 (g - n) = g - n) := Lib.hid (by
    obtain ⟨h1, h2, h3, h4⟩ := hk
    unfold RowKit.wrap64; omega)
  clear hk hn
  go_enter Try.func11, Try.ntmps11
  go_wp2_with fail
  go_ret
  exact ⟨rfl, by rw [HI.out]; exact Below.refl _ _⟩
/-- What Move says. -/
def mv (l u g x y z n : Int) : Int := if n = -9223372036854775808 then 11 else if l - u - g < n ∨ x - y - z < -n then 5 else 0
section
variable {b' o' : Nat} {z : Int}
theorem move_bad (n : Int) (hn : -9223372036854775808 ≤ n ∧ n ≤ 9223372036854775807) (hk : Ok l u g) (hk' : Ok x y z) (h : PV w b o l u g) (h' : PV w b' o' x y z) (hm : mv l u g x y z n ≠ 0) :
    Calls Try.prog 16 #[.pointer (some ⟨b, o, none⟩), .pointer (some ⟨b', o', none⟩), .int .i64 n] w fun e w' => e = .returned (.int .i64 (mv l u g x y z n)) ∧ Below w.heap.size w w' := by
  by_cases h0 : n = -9223372036854775808
  · have hT : Hid (mv l u g x y z n = 11) := Lib.hid (by unfold mv; rw [if_pos h0])
    rw [hT.out]
    clear hm hT hn
    subst h0
    go_enter Try.func16, Try.ntmps16
    go_wp2_with fail
    go_ret
    exact ⟨rfl, Below.refl _ _⟩
  have hT : Hid (mv l u g x y z n = 5 ∧ (l - u - g < n ∨ x - y - z < -n)) := Lib.hid (by
    unfold mv at hm ⊢; rw [if_neg h0] at hm ⊢
    by_cases h1 : l - u - g < n ∨ x - y - z < -n
    · rw [if_pos h1]; exact ⟨rfl, h1⟩
    · rw [if_neg h1] at hm; exact absurd rfl hm)
  rw [hT.out.1]
  have HN : Hid (RowKit.wrap64 (-n) = -n) := Lib.hid (by unfold RowKit.wrap64; omega)
  have C := Lib.hid (left_ok hk w)
  have C' := Lib.hid (fun W => left_ok hk' W)
  obtain ⟨r, er⟩ : ∃ r, l - u - g = r := ⟨_, rfl⟩
  obtain ⟨r', er'⟩ : ∃ r', x - y - z = r' := ⟨_, rfl⟩
  obtain ⟨m, em⟩ : ∃ m, -n = m := ⟨_, rfl⟩
  have HN : Hid (RowKit.wrap64 (-n) = m) := Lib.hid (HN.out.trans em)
  rw [er, er', em] at hT
  rw [er] at C
  rw [er'] at C'
  have H := Lib.hid h
  have H' := Lib.hid h'
  obtain ⟨c0, c1, c2, _, _, _⟩ := h
  have hN0 : (n == -9223372036854775808) = false := by simpa using h0
  clear hk hk' er er' em hm hn
  by_cases h1 : n > r
  · go_enter Try.func16, Try.ntmps16
    go_wp2_with fail
    refine C.out.mono ?_; rintro e w1 ⟨rfl, hb⟩
    go_wp2_with fail
    go_ret
    exact ⟨rfl, hb⟩
  · have h2 : m > r' := by have := hT.out.2; omega
    have h3 : r' < m := h2
    go_enter Try.func16, Try.ntmps16
    go_wp2_with fail
    refine C.out.mono ?_; rintro e w1 ⟨rfl, hb⟩
    obtain ⟨d0, d1, d2, _, _, _⟩ := H'.out.below hb
    have HB := Lib.hid hb
    clear hb c0 c1 c2
    have i1 : RowKit.wrap64 (-n) = m := HN.out
    go_wp2_with fail
    refine (C'.out _).mono ?_; rintro e w2 ⟨rfl, hb⟩
    have HB2 := Lib.hid (HB.out.trans (hb.mono HB.out.size))
    clear hb
    go_wp2_with fail
    go_ret
    exact ⟨rfl, HB2.out⟩
theorem mv_sum {n : Int} (hk : Ok l u g) (hk' : Ok x y z) (hm : mv l u g x y z n = 0) : RowKit.wrap64 (g + n) = g + n ∧ RowKit.wrap64 (x + n) = x + n ∧ RowKit.wrap64 (-n) = -n ∧ n ≠ -9223372036854775808 ∧ ¬ l - u - g < n ∧ ¬ x - y - z < -n := by
  unfold mv at hm
  by_cases h0 : n = -9223372036854775808
  · rw [if_pos h0] at hm; cases hm
  · rw [if_neg h0] at hm
    by_cases h1 : l - u - g < n ∨ x - y - z < -n
    · rw [if_pos h1] at hm; cases hm
    · obtain ⟨h2, h3, h4, h5⟩ := hk
      obtain ⟨h6, h7, h8, h9⟩ := hk'
      unfold RowKit.wrap64
      refine ⟨by omega, by omega, by omega, h0, fun h => h1 (.inl h), fun h => h1 (.inr h)⟩
theorem move_ok (n : Int) (hk : Ok l u g) (hk' : Ok x y z) (h : PV w b o l u g) (h' : PV w b' o' x y z) (hd : b = b' → o + 2 ≠ o') (hm : mv l u g x y z n = 0) :
    Calls Try.prog 16 #[.pointer (some ⟨b, o, none⟩), .pointer (some ⟨b', o', none⟩), .int .i64 n] w fun e w' => e = .returned (.int .i64 0) ∧ Below w.heap.size ((w.setCell ⟨b, o + 2, none⟩ (.int .i64 (g + n))).setCell ⟨b', o', none⟩ (.int .i64 (x + n))) w' := by
  have HS := Lib.hid (mv_sum hk hk' hm)
  have C := Lib.hid (left_ok hk w)
  have C' := Lib.hid (fun W => left_ok hk' W)
  obtain ⟨r, er⟩ : ∃ r, l - u - g = r := ⟨_, rfl⟩
  obtain ⟨r', er'⟩ : ∃ r', x - y - z = r' := ⟨_, rfl⟩
  obtain ⟨m, em⟩ : ∃ m, -n = m := ⟨_, rfl⟩
  have HN : Hid (RowKit.wrap64 (-n) = m) := Lib.hid (HS.out.2.2.1.trans em)
  rw [er, er', em] at HS
  rw [er] at C
  rw [er'] at C'
  have H := Lib.hid h
  have H' := Lib.hid h'
  have HD : Hid ((⟨b, o + 2, none⟩ : Addr) ≠ ⟨b', o', none⟩) := Lib.hid (fun e => by injection e with e1 e2; exact hd e1 e2)
  obtain ⟨c0, c1, c2, _, _, _⟩ := h
  have h0 : ¬ n = -9223372036854775808 := HS.out.2.2.2.1
  have h1 : ¬ n > r := by have := HS.out.2.2.2.2.1; omega
  have h1' : ¬ r < n := by have := HS.out.2.2.2.2.1; omega
  clear hk hk' er er' em hm hd h'
  go_enter Try.func16, Try.ntmps16
  go_wp2_with fail
  refine C.out.mono ?_; rintro e w1 ⟨rfl, hb⟩
  obtain ⟨d0, d1, d2, _, _, _⟩ := H'.out.below hb
  have HB := Lib.hid hb
  clear hb c0 c1 c2 C
  have i1 : RowKit.wrap64 (-n) = m := HN.out
  have h2 : ¬ m > r' := by have := HS.out.2.2.2.2.2; omega
  have h2' : ¬ r' < m := by have := HS.out.2.2.2.2.2; omega
  go_wp2_with fail
  refine (C'.out _).mono ?_; rintro e w2 ⟨rfl, hb⟩
  have HB2 := Lib.hid (HB.out.trans (hb.mono HB.out.size))
  clear hb HB d0 d1 d2 i1 C'
  obtain ⟨d0, d1, d2, f0, _, _⟩ := H'.out.below HB2.out
  obtain ⟨c0, c1, c2, _, _, f2⟩ := H.out.below HB2.out
  have i2 : RowKit.wrap64 (g + n) = g + n := HS.out.1
  have i3 : RowKit.wrap64 (x + n) = x + n := HS.out.2.1
  have e0 : (w2.setCell ⟨b, o + 2, none⟩ (.int .i64 (g + n))).cell? ⟨b', o', none⟩ = some (.int .i64 x) := by rw [World.cell?_setCell_other _ _ _ _ HD.out]; exact d0
  go_wp2_with fail
  go_ret
  exact ⟨rfl, below_both (below_both HB2.out _ _) _ _⟩
end
end Go.Proofs.Ytmkjdghjaeolcaa
