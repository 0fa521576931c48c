/- Purses since W; the example: fit; PurseRight. -/
import Derived.Test.YtmkjdghjaeolcaaUa
set_option linter.unusedVariables false
set_option linter.unusedSimpArgs false
namespace Go.Proofs.Ytmkjdghjaeolcaa
open Go.RowKit
set_option linter.unusedVariables false
set_option linter.unusedSimpArgs false
variable {W w w' : World} {b o b' i : Nat} {l u g x y z n m : Int} {v : Value}
theorem PV.new (w : World) (l u g : Int) : PV (w.alloc (Obj.cells #[.int .i64 l, .int .i64 u, .int .i64 g] 26)) w.heap.size 0 l u g :=
  have h := heap_alloc_new w (Obj.cells #[.int .i64 l, .int .i64 u, .int .i64 g] 26)
  ⟨by rw [cell_of_row _ _ 0 _ _ _ h]; rfl, by rw [cell_of_row _ _ 1 _ _ _ h]; rfl, by rw [cell_of_row _ _ 2 _ _ _ h]; rfl, frozen_of_row _ _ _ _ _ h, frozen_of_row _ _ _ _ _ h, frozen_of_row _ _ _ _ _ h⟩
theorem below_sz {a : Addr} (h : Below w.heap.size (w.setCell a v) w') : Below (w.setCell a v).heap.size (w.setCell a v) w' := by rw [World.size_setCell]; exact h
theorem set_of (a : Addr) (v : Value) {p : Addr} {x : Value} (h : w.cell? p = some x) (hne : a ≠ p) : (w.setCell a v).cell? p = some x := by rw [World.cell?_setCell_other _ _ _ _ hne]; exact h
theorem PV.other (h : PV w b o l u g) (hb : Below w.heap.size (w.setCell ⟨b', i, none⟩ v) w') (hne : b = b' → i < o ∨ o + 2 < i) : PV w' b o l u g := by
  have hn : ∀ k, k ≤ 2 → (⟨b', i, none⟩ : Addr) ≠ ⟨b, o + k, none⟩ := fun k hk e => by
    injection e with e1 e2
    rcases hne e1.symm with h | h <;> omega
  exact PV.below (⟨set_of _ _ h.c0 (hn 0 (by omega)), set_of _ _ h.c1 (hn 1 (by omega)), set_of _ _ h.c2 (hn 2 (by omega)), by rw [World.frozen?_setCell]; exact h.f0, by rw [World.frozen?_setCell]; exact h.f1, by rw [World.frozen?_setCell]; exact h.f2⟩ : PV (w.setCell ⟨b', i, none⟩ v) b o l u g) (below_sz hb)
theorem off_ne {j k : Nat} (hjk : j ≠ k) : (⟨b, o + j, none⟩ : Addr) ≠ ⟨b, o + k, none⟩ := fun e => by injection e with _ e2; omega
theorem PV.put0 (h : PV w b o l u g) (hb : Below w.heap.size (w.setCell ⟨b, o, none⟩ (.int .i64 x)) w') : PV w' b o x u g :=
  PV.below (⟨World.cell?_setCell_same _ _ _ h.c0, set_of _ _ h.c1 (off_ne (j := 0) (by omega)), set_of _ _ h.c2 (off_ne (j := 0) (by omega)), by rw [World.frozen?_setCell]; exact h.f0, by rw [World.frozen?_setCell]; exact h.f1, by rw [World.frozen?_setCell]; exact h.f2⟩ : PV (w.setCell ⟨b, o, none⟩ (.int .i64 x)) b o x u g) (below_sz hb)
theorem PV.put1 (h : PV w b o l u g) (hb : Below w.heap.size (w.setCell ⟨b, o + 1, none⟩ (.int .i64 x)) w') : PV w' b o l x g :=
  PV.below (⟨set_of _ _ h.c0 (off_ne (k := 0) (by omega)), World.cell?_setCell_same _ _ _ h.c1, set_of _ _ h.c2 (off_ne (by omega)), by rw [World.frozen?_setCell]; exact h.f0, by rw [World.frozen?_setCell]; exact h.f1, by rw [World.frozen?_setCell]; exact h.f2⟩ : PV (w.setCell ⟨b, o + 1, none⟩ (.int .i64 x)) b o l x g) (below_sz hb)
theorem PV.put2 (h : PV w b o l u g) (hb : Below w.heap.size (w.setCell ⟨b, o + 2, none⟩ (.int .i64 x)) w') : PV w' b o l u x :=
  PV.below (⟨set_of _ _ h.c0 (off_ne (k := 0) (by omega)), set_of _ _ h.c1 (off_ne (by omega)), World.cell?_setCell_same _ _ _ h.c2, by rw [World.frozen?_setCell]; exact h.f0, by rw [World.frozen?_setCell]; exact h.f1, by rw [World.frozen?_setCell]; exact h.f2⟩ : PV (w.setCell ⟨b, o + 2, none⟩ (.int .i64 x)) b o l u x) (below_sz hb)
theorem PV.move {b2 o2 : Nat} {x2 : Int} (h : PV w b o l u g) (h' : PV w b2 o2 x y z) (hne : b = b2 → o + 2 < o2 ∨ o2 + 2 < o) (hb : Below w.heap.size ((w.setCell ⟨b, o + 2, none⟩ (.int .i64 m)).setCell ⟨b2, o2, none⟩ (.int .i64 x2)) w') : PV w' b o l u m ∧ PV w' b2 o2 x2 y z := by
  have h1 := h.put2 (Below.refl _ (w.setCell ⟨b, o + 2, none⟩ (.int .i64 m)))
  have h2 := h'.other (Below.refl _ (w.setCell ⟨b, o + 2, none⟩ (.int .i64 m))) (fun e => by rcases hne e.symm with h | h <;> omega)
  have hb' : Below (w.setCell ⟨b, o + 2, none⟩ (.int .i64 m)).heap.size ((w.setCell ⟨b, o + 2, none⟩ (.int .i64 m)).setCell ⟨b2, o2, none⟩ (.int .i64 x2)) w' := by rw [World.size_setCell]; exact hb
  exact ⟨h1.other hb' (fun e => by rcases hne e with h | h <;> omega), h2.put0 hb'⟩
/-- A store to a block since W. -/
theorem below_put (h : Below W.heap.size W w) (hb : W.heap.size ≤ b) (hs : Below w.heap.size (w.setCell ⟨b, i, none⟩ v) w') : Below W.heap.size W w' := (h.setCell (p := ⟨b, i, none⟩) hb v).trans (hs.mono h.size)
theorem below_put2 {b2 i2 : Nat} {v2 : Value} (h : Below W.heap.size W w) (hb : W.heap.size ≤ b) (hb2 : W.heap.size ≤ b2) (hs : Below w.heap.size ((w.setCell ⟨b, i, none⟩ v).setCell ⟨b2, i2, none⟩ v2) w') : Below W.heap.size W w' :=
  ((h.setCell (p := ⟨b, i, none⟩) hb v).setCell (p := ⟨b2, i2, none⟩) hb2 v2).trans (hs.mono h.size)
theorem below_up (h : Below W.heap.size W w) (hs : Below w.heap.size w w') : Below W.heap.size W w' := h.trans (hs.mono h.size)
theorem right_ok (h : Ok l u g) (w : World) : Calls Try.prog 15 #[.agg #[.int .i64 l, .int .i64 u, .int .i64 g]] w fun e w' => e = .returned (.bool true) ∧ Below w.heap.size w w' := by
  have := right_any l u g w; rw [rt_ok h] at this; exact this
set_option maxRecDepth 100000 in
set_option maxHeartbeats 1000000 in
theorem fit_any (w : World) : Calls Try.prog 7 #[] w fun e w' => e = .returned (.bool true) ∧ Below w.heap.size w w' := by
  have H0 := Lib.hid (PV.new w 10 0 0)
  have B0 := Lib.hid (below_alloc1 w (Obj.cells #[.int .i64 10, .int .i64 0, .int .i64 0] 26))
  go_enter Try.func7, Try.ntmps7
  go_wp2_with fail
  refine (take_ok 4 (show Ok 10 0 0 by unfold Ok; omega) H0.out (by decide)).mono ?_; rintro e w1 ⟨rfl, hb⟩
  have H1 := Lib.hid (H0.out.put1 (o := 0) hb)
  have B1 := Lib.hid (below_put B0.out (Nat.le_refl _) hb)
  clear hb H0 B0
  go_wp2_with fail
  refine (give_ok 6 (show Ok 10 4 0 by unfold Ok; omega) H1.out (by decide)).mono ?_; rintro e w2 ⟨rfl, hb⟩
  have H2 := Lib.hid (H1.out.put2 (o := 0) hb)
  have B2 := Lib.hid (below_put B1.out (Nat.le_refl _) hb)
  clear hb H1 B1
  have H3 := Lib.hid (H2.out.below (below_alloc1 w2 (Obj.cells #[.int .i64 6, .int .i64 0, .int .i64 0] 26)))
  have B3 := Lib.hid (below_up B2.out (below_alloc1 w2 (Obj.cells #[.int .i64 6, .int .i64 0, .int .i64 0] 26)))
  go_wp2_with fail
  refine (take_bad 1 (show Ok 10 4 6 by unfold Ok; omega) H3.out (by decide)).mono ?_; rintro e w4 ⟨rfl, hb⟩
  obtain ⟨c0, c1, c2, _, _, _⟩ := H3.out.below hb
  have B4 := Lib.hid (below_up B3.out hb)
  clear hb H2 B2 H3 B3
  go_wp2_with fail
  refine (right_ok (show Ok 10 4 6 by unfold Ok; omega) _).mono ?_; rintro e w5 ⟨rfl, hb⟩
  have B5 := Lib.hid (below_up B4.out hb)
  clear hb
  go_wp2_with fail
  go_ret
  exact ⟨rfl, B5.out⟩
theorem right_ok' {a b c : Int} {r : Bool} (h : rt a b c = r) (w : World) : Calls Try.prog 15 #[.agg #[.int .i64 a, .int .i64 b, .int .i64 c]] w fun e w' => e = .returned (.bool r) ∧ Below w.heap.size w w' := by
  have := right_any a b c w; rw [h] at this; exact this
set_option maxRecDepth 100000 in
set_option maxHeartbeats 1000000 in
theorem right_all (a b c : Int) (w : World) (ha : -9223372036854775808 ≤ a ∧ a ≤ 9223372036854775807) (hb : -9223372036854775808 ≤ b ∧ b ≤ 9223372036854775807) (hc : -9223372036854775808 ≤ c ∧ c ≤ 9223372036854775807) :
    Calls Try.prog 4 #[.int .i64 a, .int .i64 b, .int .i64 c] w fun e w' => e = .returned (.bool true) ∧ Below w.heap.size w w' := by
  have C0 := Lib.hid (fit_any w)
  have no : (min (min a b) c < 0 ∨ RowKit.wrap64 (a - b) < c) → rt a b c = false := fun h => by
    unfold rt
    rcases h with h | h
    · rw [decide_eq_false (show ¬ min (min a b) c ≥ 0 by omega)]; rfl
    · rw [decide_eq_false (show ¬ c ≤ RowKit.wrap64 (a - b) by omega), Bool.and_false]
  have yes : 0 ≤ a → 0 ≤ b → 0 ≤ c → c ≤ RowKit.wrap64 (a - b) → rt a b c = true := fun h1 h2 h3 h4 => by
    unfold rt
    rw [decide_eq_true (show min (min a b) c ≥ 0 by omega), decide_eq_true h4]; rfl
  by_cases h1x : a < 0
  · have h1 : ¬ a ≥ 0 := by omega
    have C := Lib.hid (fun W => right_ok' (no (.inl (by omega))) W)
    have h1' : ¬ 0 ≤ a := h1
    clear no yes ha hb hc
    go_enter Try.func4, Try.ntmps4
    go_wp2_with fail
    refine C0.out.mono ?_; rintro e w1 ⟨rfl, hb⟩
    have B1 := Lib.hid (below_up hb (below_alloc1 w1 (Obj.cells #[.int .i64 a, .int .i64 b, .int .i64 c] 26)))
    clear hb
    go_wp2_with fail
    refine (C.out _).mono ?_; rintro e w2 ⟨rfl, hb⟩
    go_wp2_with fail
    go_ret
    exact ⟨rfl, below_up B1.out hb⟩
  have h1 : a ≥ 0 := by omega
  clear h1x
  by_cases h2x : b < 0
  · have h2 : ¬ b ≥ 0 := by omega
    have C := Lib.hid (fun W => right_ok' (no (.inl (by omega))) W)
    have h1' : 0 ≤ a := h1
    have h2' : ¬ 0 ≤ b := h2
    clear no yes ha hb hc
    go_enter Try.func4, Try.ntmps4
    go_wp2_with fail
    refine C0.out.mono ?_; rintro e w1 ⟨rfl, hb⟩
    have B1 := Lib.hid (below_up hb (below_alloc1 w1 (Obj.cells #[.int .i64 a, .int .i64 b, .int .i64 c] 26)))
    clear hb
    go_wp2_with fail
    refine (C.out _).mono ?_; rintro e w2 ⟨rfl, hb⟩
    go_wp2_with fail
    go_ret
    exact ⟨rfl, below_up B1.out hb⟩
  have h2 : b ≥ 0 := by omega
  clear h2x
  by_cases h3x : c < 0
  · have h3 : ¬ c ≥ 0 := by omega
    have C := Lib.hid (fun W => right_ok' (no (.inl (by omega))) W)
    have h1' : 0 ≤ a := h1
    have h2' : 0 ≤ b := h2
    have h3' : ¬ 0 ≤ c := h3
    clear no yes ha hb hc
    go_enter Try.func4, Try.ntmps4
    go_wp2_with fail
    refine C0.out.mono ?_; rintro e w1 ⟨rfl, hb⟩
    have B1 := Lib.hid (below_up hb (below_alloc1 w1 (Obj.cells #[.int .i64 a, .int .i64 b, .int .i64 c] 26)))
    clear hb
    go_wp2_with fail
    refine (C.out _).mono ?_; rintro e w2 ⟨rfl, hb⟩
    go_wp2_with fail
    go_ret
    exact ⟨rfl, below_up B1.out hb⟩
  have h3 : c ≥ 0 := by omega
  clear h3x
  have e1 : RowKit.wrap64 (a - b) = a - b := by unfold RowKit.wrap64; omega
  by_cases h4x : a < b
  · have h4 : ¬ b ≤ a := by omega
    have C := Lib.hid (fun W => right_ok' (no (.inr (by rw [e1]; omega))) W)
    have h1' : 0 ≤ a := h1
    have h2' : 0 ≤ b := h2
    have h3' : 0 ≤ c := h3
    clear no yes ha hb hc e1
    go_enter Try.func4, Try.ntmps4
    go_wp2_with fail
    refine C0.out.mono ?_; rintro e w1 ⟨rfl, hb⟩
    have B1 := Lib.hid (below_up hb (below_alloc1 w1 (Obj.cells #[.int .i64 a, .int .i64 b, .int .i64 c] 26)))
    clear hb
    go_wp2_with fail
    refine (C.out _).mono ?_; rintro e w2 ⟨rfl, hb⟩
    go_wp2_with fail
    go_ret
    exact ⟨rfl, below_up B1.out hb⟩
  have h4 : b ≤ a := by omega
  clear h4x
  by_cases h5x : a - b < c
  · have h5 : ¬ c ≤ a - b := by omega
    have C := Lib.hid (fun W => right_ok' (no (.inr (by rw [e1]; omega))) W)
    have h1' : 0 ≤ a := h1
    have h2' : 0 ≤ b := h2
    have h3' : 0 ≤ c := h3
    obtain ⟨d, ed⟩ : ∃ d, a - b = d := ⟨_, rfl⟩
    rw [ed] at h5
    have e2 : RowKit.wrap64 (a - b) = d := e1.trans ed
    clear no yes ha hb hc e1 ed
    go_enter Try.func4, Try.ntmps4
    go_wp2_with fail
    refine C0.out.mono ?_; rintro e w1 ⟨rfl, hb⟩
    have B1 := Lib.hid (below_up hb (below_alloc1 w1 (Obj.cells #[.int .i64 a, .int .i64 b, .int .i64 c] 26)))
    clear hb
    go_wp2_with fail
    refine (C.out _).mono ?_; rintro e w2 ⟨rfl, hb⟩
    go_wp2_with fail
    go_ret
    exact ⟨rfl, below_up B1.out hb⟩
  have h5 : c ≤ a - b := by omega
  clear h5x
  have C := Lib.hid (fun W => right_ok' (yes h1 h2 h3 (by rw [e1]; omega)) W)
  have h1' : 0 ≤ a := h1
  have h2' : 0 ≤ b := h2
  have h3' : 0 ≤ c := h3
  have hz : 0 ≤ a - b - c := by omega
  have e2 : RowKit.wrap64 (a - b - c) = a - b - c := by unfold RowKit.wrap64; omega
  have CL := fun W => left_any a b c W
  rw [e1, e2] at CL
  obtain ⟨d, ed⟩ : ∃ d, a - b = d := ⟨_, rfl⟩
  obtain ⟨f, ef⟩ : ∃ f, d - c = f := ⟨_, rfl⟩
  have e3 : RowKit.wrap64 (a - b) = d := e1.trans ed
  have e4 : RowKit.wrap64 (d - c) = f := by rw [← ef, ← ed]; exact e2
  rw [ed] at h5
  rw [ed, ef] at CL hz
  have hz' : f ≥ 0 := hz
  have CL := Lib.hid CL
  clear no yes ha hb hc e1 e2 ed ef
  go_enter Try.func4, Try.ntmps4
  go_wp2_with fail
  refine C0.out.mono ?_; rintro e w1 ⟨rfl, hb⟩
  have B1 := Lib.hid (below_up hb (below_alloc1 w1 (Obj.cells #[.int .i64 a, .int .i64 b, .int .i64 c] 26)))
  have H1 := Lib.hid (PV.new w1 a b c)
  clear hb
  go_wp2_with fail
  refine (C.out _).mono ?_; rintro e w2 ⟨rfl, hb⟩
  obtain ⟨c0, c1, c2, _, _, _⟩ := H1.out.below hb
  have H2 := Lib.hid (H1.out.below hb)
  have B2 := Lib.hid (below_up B1.out hb)
  clear hb
  go_wp2_with fail
  refine (CL.out _).mono ?_; rintro e w3 ⟨rfl, hb⟩
  obtain ⟨d0, d1, d2, _, _, _⟩ := H2.out.below hb
  have B3 := Lib.hid (below_up B2.out hb)
  clear hb c0 c1 c2
  go_wp2_with fail
  refine (CL.out _).mono ?_; rintro e w4 ⟨rfl, hb⟩
  have B4 := Lib.hid (below_up B3.out hb)
  clear hb
  go_wp2_with fail
  go_ret
  exact ⟨rfl, B4.out⟩
end Go.Proofs.Ytmkjdghjaeolcaa
