/- WaitsWhy. -/
import Derived.Test.YtdkmddljdggbpaaWa
set_option linter.unusedVariables false
set_option linter.unusedSimpArgs false
namespace Go.Proofs.Ytdkmddljdggbpaa
open Go.RowKit
set_option linter.unusedVariables false
set_option linter.unusedSimpArgs false
theorem boxes (w : World) (S T : Nat) (cs ds : Array Value) : ((w.alloc (Obj.cells cs S)).alloc (Obj.cells ds T)).heap[w.heap.size]? = some (Obj.cells cs S) ∧ ((w.alloc (Obj.cells cs S)).alloc (Obj.cells ds T)).heap[w.heap.size + 1]? = some (Obj.cells ds T) :=
  ⟨keep5 (heap_alloc_new w _) (below_alloc1 _ _), by have := heap_alloc_new (w.alloc (Obj.cells cs S)) (Obj.cells ds T); rw [World.size_alloc] at this; exact this⟩
set_option maxRecDepth 100000 in
set_option maxHeartbeats 4000000 in
theorem why_all (x : Wt) (l : Lk) (w : World) : Calls Try.prog 3 #[x.agg, l.agg] w fun e w' => e = .returned (.bool true) ∧ Below w.heap.size w w' := by
  obtain ⟨r, hr⟩ : ∃ r, why x l = r := ⟨_, rfl⟩
  have C := Lib.hid (fun W => why_any x l r hr W)
  obtain ⟨xs, xo, xv, xk, xu⟩ := x
  obtain ⟨t, v, k, a, n⟩ := l
  unfold Wt.agg Lk.agg at C ⊢
  unfold why at hr
  simp only at hr C ⊢
  have HR := Lib.hid hr
  clear hr
  obtain ⟨g, eg⟩ : ∃ g, w.heap.size = g := ⟨_, rfl⟩
  have HX := Lib.hid (boxes w 24 26 #[.int .u64 xs, .int .i64 xo, .int .u64 xv, .int .u64 xk, .int .u64 xu] #[.bool t, .int .u64 v, .int .u64 k, .int .i64 a, .int .u64 n])
  have HB := Lib.hid (below2 w (Obj.cells #[.int .u64 xs, .int .i64 xo, .int .u64 xv, .int .u64 xk, .int .u64 xu] 24) (Obj.cells #[.bool t, .int .u64 v, .int .u64 k, .int .i64 a, .int .u64 n] 26))
  have HG := Lib.hid eg
  rw [eg] at HX
  clear eg
  go_enter Try.func3, Try.ntmps3
  go_wp2_with fail
  refine (fit_any _).mono ?_; rintro e w1 ⟨rfl, hb⟩
  rw [HG.out]
  obtain ⟨d0, d1, d2, d3, d4⟩ := cells5 (keep5 HX.out.1 hb)
  obtain ⟨f0, f1, f2, f3, f4⟩ := cells5 (keep5 HX.out.2 hb)
  have H1 := Lib.hid (below_up HB.out hb)
  clear hb HB HX HG
  by_cases hu : xu = 0
  · subst hu
    by_cases ha : 0 < a
    · have ha2 : a > 0 := ha
      by_cases hk : k = xk
      · subst hk
        cases t with
        | false =>
          obtain rfl : r = 1 := by rw [← HR.out]; simp [ha]
          clear HR
          go_wp2_with fail
          refine (C.out _).mono ?_; rintro e w2 ⟨rfl, hb⟩
          go_wp2_with fail
          go_ret
          exact ⟨rfl, below_up H1.out hb⟩
        | true =>
          by_cases hv : v = xv
          · subst hv
            obtain rfl : r = 3 := by rw [← HR.out]; simp [ha]
            clear HR
            go_wp2_with fail
            refine (C.out _).mono ?_; rintro e w2 ⟨rfl, hb⟩
            go_wp2_with fail
            go_ret
            exact ⟨rfl, below_up H1.out hb⟩
          · obtain rfl : r = 1 := by rw [← HR.out]; simp [ha, hv]
            clear HR
            go_wp2_with fail
            refine (C.out _).mono ?_; rintro e w2 ⟨rfl, hb⟩
            go_wp2_with fail
            go_ret
            exact ⟨rfl, below_up H1.out hb⟩
      · cases t with
        | false =>
          obtain rfl : r = 1 := by rw [← HR.out]; simp [ha, hk]
          clear HR
          go_wp2_with fail
          refine (C.out _).mono ?_; rintro e w2 ⟨rfl, hb⟩
          go_wp2_with fail
          go_ret
          exact ⟨rfl, below_up H1.out hb⟩
        | true =>
          by_cases hv : v = xv
          · subst hv
            obtain rfl : r = 2 := by rw [← HR.out]; simp [ha, hk]
            clear HR
            go_wp2_with fail
            refine (C.out _).mono ?_; rintro e w2 ⟨rfl, hb⟩
            go_wp2_with fail
            go_ret
            exact ⟨rfl, below_up H1.out hb⟩
          · obtain rfl : r = 1 := by rw [← HR.out]; simp [ha, hk, hv]
            clear HR
            go_wp2_with fail
            refine (C.out _).mono ?_; rintro e w2 ⟨rfl, hb⟩
            go_wp2_with fail
            go_ret
            exact ⟨rfl, below_up H1.out hb⟩
    · have ha2 : ¬ a > 0 := ha
      by_cases hk : k = xk
      · subst hk
        cases t with
        | false =>
          obtain rfl : r = 1 := by rw [← HR.out]; simp [ha]
          clear HR
          go_wp2_with fail
          refine (C.out _).mono ?_; rintro e w2 ⟨rfl, hb⟩
          go_wp2_with fail
          go_ret
          exact ⟨rfl, below_up H1.out hb⟩
        | true =>
          by_cases hv : v = xv
          · subst hv
            obtain rfl : r = 0 := by rw [← HR.out]; simp [ha]
            clear HR
            go_wp2_with fail
            refine (C.out _).mono ?_; rintro e w2 ⟨rfl, hb⟩
            go_wp2_with fail
            go_ret
            exact ⟨rfl, below_up H1.out hb⟩
          · obtain rfl : r = 1 := by rw [← HR.out]; simp [ha, hv]
            clear HR
            go_wp2_with fail
            refine (C.out _).mono ?_; rintro e w2 ⟨rfl, hb⟩
            go_wp2_with fail
            go_ret
            exact ⟨rfl, below_up H1.out hb⟩
      · cases t with
        | false =>
          obtain rfl : r = 1 := by rw [← HR.out]; simp [ha, hk]
          clear HR
          go_wp2_with fail
          refine (C.out _).mono ?_; rintro e w2 ⟨rfl, hb⟩
          go_wp2_with fail
          go_ret
          exact ⟨rfl, below_up H1.out hb⟩
        | true =>
          by_cases hv : v = xv
          · subst hv
            obtain rfl : r = 2 := by rw [← HR.out]; simp [ha, hk]
            clear HR
            go_wp2_with fail
            refine (C.out _).mono ?_; rintro e w2 ⟨rfl, hb⟩
            go_wp2_with fail
            go_ret
            exact ⟨rfl, below_up H1.out hb⟩
          · obtain rfl : r = 1 := by rw [← HR.out]; simp [ha, hk, hv]
            clear HR
            go_wp2_with fail
            refine (C.out _).mono ?_; rintro e w2 ⟨rfl, hb⟩
            go_wp2_with fail
            go_ret
            exact ⟨rfl, below_up H1.out hb⟩
  · by_cases hn : xu ≤ n
    · have hn2 : n ≥ xu := hn
      by_cases ha : 0 < a
      · have ha2 : a > 0 := ha
        by_cases hk : k = xk
        · subst hk
          cases t with
          | false =>
            obtain rfl : r = 1 := by rw [← HR.out]; simp [hu, hn, ha]
            clear HR
            go_wp2_with fail
            refine (C.out _).mono ?_; rintro e w2 ⟨rfl, hb⟩
            go_wp2_with fail
            go_ret
            exact ⟨rfl, below_up H1.out hb⟩
          | true =>
            by_cases hv : v = xv
            · subst hv
              obtain rfl : r = 3 := by rw [← HR.out]; simp [hu, hn, ha]
              clear HR
              go_wp2_with fail
              refine (C.out _).mono ?_; rintro e w2 ⟨rfl, hb⟩
              go_wp2_with fail
              go_ret
              exact ⟨rfl, below_up H1.out hb⟩
            · obtain rfl : r = 1 := by rw [← HR.out]; simp [hu, hn, ha, hv]
              clear HR
              go_wp2_with fail
              refine (C.out _).mono ?_; rintro e w2 ⟨rfl, hb⟩
              go_wp2_with fail
              go_ret
              exact ⟨rfl, below_up H1.out hb⟩
        · cases t with
          | false =>
            obtain rfl : r = 1 := by rw [← HR.out]; simp [hu, hn, ha, hk]
            clear HR
            go_wp2_with fail
            refine (C.out _).mono ?_; rintro e w2 ⟨rfl, hb⟩
            go_wp2_with fail
            go_ret
            exact ⟨rfl, below_up H1.out hb⟩
          | true =>
            by_cases hv : v = xv
            · subst hv
              obtain rfl : r = 2 := by rw [← HR.out]; simp [hu, hn, ha, hk]
              clear HR
              go_wp2_with fail
              refine (C.out _).mono ?_; rintro e w2 ⟨rfl, hb⟩
              go_wp2_with fail
              go_ret
              exact ⟨rfl, below_up H1.out hb⟩
            · obtain rfl : r = 1 := by rw [← HR.out]; simp [hu, hn, ha, hk, hv]
              clear HR
              go_wp2_with fail
              refine (C.out _).mono ?_; rintro e w2 ⟨rfl, hb⟩
              go_wp2_with fail
              go_ret
              exact ⟨rfl, below_up H1.out hb⟩
      · have ha2 : ¬ a > 0 := ha
        by_cases hk : k = xk
        · subst hk
          cases t with
          | false =>
            obtain rfl : r = 1 := by rw [← HR.out]; simp [hu, hn, ha]
            clear HR
            go_wp2_with fail
            refine (C.out _).mono ?_; rintro e w2 ⟨rfl, hb⟩
            go_wp2_with fail
            go_ret
            exact ⟨rfl, below_up H1.out hb⟩
          | true =>
            by_cases hv : v = xv
            · subst hv
              obtain rfl : r = 4 := by rw [← HR.out]; simp [hu, hn, ha]
              clear HR
              go_wp2_with fail
              refine (C.out _).mono ?_; rintro e w2 ⟨rfl, hb⟩
              go_wp2_with fail
              go_ret
              exact ⟨rfl, below_up H1.out hb⟩
            · obtain rfl : r = 1 := by rw [← HR.out]; simp [hu, hn, ha, hv]
              clear HR
              go_wp2_with fail
              refine (C.out _).mono ?_; rintro e w2 ⟨rfl, hb⟩
              go_wp2_with fail
              go_ret
              exact ⟨rfl, below_up H1.out hb⟩
        · cases t with
          | false =>
            obtain rfl : r = 1 := by rw [← HR.out]; simp [hu, hn, ha, hk]
            clear HR
            go_wp2_with fail
            refine (C.out _).mono ?_; rintro e w2 ⟨rfl, hb⟩
            go_wp2_with fail
            go_ret
            exact ⟨rfl, below_up H1.out hb⟩
          | true =>
            by_cases hv : v = xv
            · subst hv
              obtain rfl : r = 2 := by rw [← HR.out]; simp [hu, hn, ha, hk]
              clear HR
              go_wp2_with fail
              refine (C.out _).mono ?_; rintro e w2 ⟨rfl, hb⟩
              go_wp2_with fail
              go_ret
              exact ⟨rfl, below_up H1.out hb⟩
            · obtain rfl : r = 1 := by rw [← HR.out]; simp [hu, hn, ha, hk, hv]
              clear HR
              go_wp2_with fail
              refine (C.out _).mono ?_; rintro e w2 ⟨rfl, hb⟩
              go_wp2_with fail
              go_ret
              exact ⟨rfl, below_up H1.out hb⟩
    · have hn2 : ¬ n ≥ xu := hn
      by_cases ha : 0 < a
      · have ha2 : a > 0 := ha
        by_cases hk : k = xk
        · subst hk
          cases t with
          | false =>
            obtain rfl : r = 1 := by rw [← HR.out]; simp [hu, hn, ha]
            clear HR
            go_wp2_with fail
            refine (C.out _).mono ?_; rintro e w2 ⟨rfl, hb⟩
            go_wp2_with fail
            go_ret
            exact ⟨rfl, below_up H1.out hb⟩
          | true =>
            by_cases hv : v = xv
            · subst hv
              obtain rfl : r = 3 := by rw [← HR.out]; simp [hu, hn, ha]
              clear HR
              go_wp2_with fail
              refine (C.out _).mono ?_; rintro e w2 ⟨rfl, hb⟩
              go_wp2_with fail
              go_ret
              exact ⟨rfl, below_up H1.out hb⟩
            · obtain rfl : r = 1 := by rw [← HR.out]; simp [hu, hn, ha, hv]
              clear HR
              go_wp2_with fail
              refine (C.out _).mono ?_; rintro e w2 ⟨rfl, hb⟩
              go_wp2_with fail
              go_ret
              exact ⟨rfl, below_up H1.out hb⟩
        · cases t with
          | false =>
            obtain rfl : r = 1 := by rw [← HR.out]; simp [hu, hn, ha, hk]
            clear HR
            go_wp2_with fail
            refine (C.out _).mono ?_; rintro e w2 ⟨rfl, hb⟩
            go_wp2_with fail
            go_ret
            exact ⟨rfl, below_up H1.out hb⟩
          | true =>
            by_cases hv : v = xv
            · subst hv
              obtain rfl : r = 2 := by rw [← HR.out]; simp [hu, hn, ha, hk]
              clear HR
              go_wp2_with fail
              refine (C.out _).mono ?_; rintro e w2 ⟨rfl, hb⟩
              go_wp2_with fail
              go_ret
              exact ⟨rfl, below_up H1.out hb⟩
            · obtain rfl : r = 1 := by rw [← HR.out]; simp [hu, hn, ha, hk, hv]
              clear HR
              go_wp2_with fail
              refine (C.out _).mono ?_; rintro e w2 ⟨rfl, hb⟩
              go_wp2_with fail
              go_ret
              exact ⟨rfl, below_up H1.out hb⟩
      · have ha2 : ¬ a > 0 := ha
        by_cases hk : k = xk
        · subst hk
          cases t with
          | false =>
            obtain rfl : r = 1 := by rw [← HR.out]; simp [hu, hn, ha]
            clear HR
            go_wp2_with fail
            refine (C.out _).mono ?_; rintro e w2 ⟨rfl, hb⟩
            go_wp2_with fail
            go_ret
            exact ⟨rfl, below_up H1.out hb⟩
          | true =>
            by_cases hv : v = xv
            · subst hv
              obtain rfl : r = 0 := by rw [← HR.out]; simp [hu, hn, ha]
              clear HR
              go_wp2_with fail
              refine (C.out _).mono ?_; rintro e w2 ⟨rfl, hb⟩
              go_wp2_with fail
              go_ret
              exact ⟨rfl, below_up H1.out hb⟩
            · obtain rfl : r = 1 := by rw [← HR.out]; simp [hu, hn, ha, hv]
              clear HR
              go_wp2_with fail
              refine (C.out _).mono ?_; rintro e w2 ⟨rfl, hb⟩
              go_wp2_with fail
              go_ret
              exact ⟨rfl, below_up H1.out hb⟩
        · cases t with
          | false =>
            obtain rfl : r = 1 := by rw [← HR.out]; simp [hu, hn, ha, hk]
            clear HR
            go_wp2_with fail
            refine (C.out _).mono ?_; rintro e w2 ⟨rfl, hb⟩
            go_wp2_with fail
            go_ret
            exact ⟨rfl, below_up H1.out hb⟩
          | true =>
            by_cases hv : v = xv
            · subst hv
              obtain rfl : r = 2 := by rw [← HR.out]; simp [hu, hn, ha, hk]
              clear HR
              go_wp2_with fail
              refine (C.out _).mono ?_; rintro e w2 ⟨rfl, hb⟩
              go_wp2_with fail
              go_ret
              exact ⟨rfl, below_up H1.out hb⟩
            · obtain rfl : r = 1 := by rw [← HR.out]; simp [hu, hn, ha, hk, hv]
              clear HR
              go_wp2_with fail
              refine (C.out _).mono ?_; rintro e w2 ⟨rfl, hb⟩
              go_wp2_with fail
              go_ret
              exact ⟨rfl, below_up H1.out hb⟩
end Go.Proofs.Ytdkmddljdggbpaa
