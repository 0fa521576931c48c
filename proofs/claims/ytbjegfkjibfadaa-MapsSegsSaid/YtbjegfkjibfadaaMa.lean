/- A map of pages; may it be, where it ends, and whether two are over one another. -/
import Derived.Test.YtbjegfkjibfadaaVw
import Derived.StillTailTactics
import Derived.BigRegion
set_option linter.unusedVariables false
set_option linter.unusedSimpArgs false
namespace Go.Proofs.Ytbjegfkjibfadaa
open Go.RowKit
set_option linter.unusedVariables false
set_option linter.unusedSimpArgs false
theorem below_dN (w : World) (n : Nat) : Below w.heap.size w (w.drewN n) := ⟨rfl, rfl, rfl, Nat.le_refl _, fun _ _ => rfl⟩
theorem below_up {W w w' : World} (h : Below W.heap.size W w) (hs : Below w.heap.size w w') : Below W.heap.size W w' := h.trans (hs.mono h.size)
/-- A map. -/
structure Mp where
  a : Int
  s : Int
  f : Int
  n : Int
  w : Bool
  deriving DecidableEq
/-- May it be? -/
def okB (a s f n : Int) : Bool := decide (1 ≤ n) && (decide (n ≤ 16) && (decide (0 ≤ a) && (decide (a + n ≤ 4096) && (decide (0 ≤ f) && (decide (f + n ≤ 16) && (s != 0))))))
theorem okB_iff {a s f n : Int} : okB a s f n = true ↔ 1 ≤ n ∧ n ≤ 16 ∧ 0 ≤ a ∧ a + n ≤ 4096 ∧ 0 ≤ f ∧ f + n ≤ 16 ∧ s ≠ 0 := by
  unfold okB; simp only [Bool.and_eq_true, decide_eq_true_eq, bne_iff_ne]
/-- Has one a page of the other? -/
def ovB (a n a' n' : Int) : Bool := decide (a < a' + n') && decide (a' < a + n)
theorem end_ok {a n : Int} (s f : Int) (b : Bool) (h : 0 ≤ a ∧ a ≤ 4096 ∧ 0 ≤ n ∧ n ≤ 16) (w : World) : Calls Try.prog 20 #[.agg #[.int .i64 a, .int .u64 s, .int .i64 f, .int .i64 n, .bool b]] w fun e w' => e = .returned (.int .i64 (a + n)) ∧ Below w.heap.size w w' := by
  have hb := Lib.hid (below_alloc1 w (Obj.cells #[.int .i64 a, .int .u64 s, .int .i64 f, .int .i64 n, .bool b] 26))
  obtain ⟨r, er⟩ : ∃ r, a + n = r := ⟨_, rfl⟩
  have e1 : IntKind.i64.wrap (a + n) = r := by rw [IntKind.wrap_i64]; omega
  rw [er]
  clear er h
  go_enter Try.func20, Try.ntmps20
  go_wp2_with fail
  go_ret
  exact ⟨rfl, hb.out⟩
set_option maxHeartbeats 1000000 in
theorem valid_any (a s f n : Int) (b : Bool) (w : World) : Calls Try.prog 19 #[.agg #[.int .i64 a, .int .u64 s, .int .i64 f, .int .i64 n, .bool b]] w fun e w' => e = .returned (.bool (okB a s f n)) ∧ Below w.heap.size w w' := by
  have hb := Lib.hid (below_alloc1 w (Obj.cells #[.int .i64 a, .int .u64 s, .int .i64 f, .int .i64 n, .bool b] 26))
  have qK := Lib.hid (@okB_iff a s f n)
  by_cases h0 : 1 ≤ n
  case neg =>
    have hR : Hid (okB a s f n = false) := Lib.hid (Bool.eq_false_iff.2 fun hk => by have := qK.out.1 hk; omega)
    clear qK
    skip
    go_enter Try.func19, Try.ntmps19
    go_wp2_with fail
    go_ret
    exact ⟨by rw [hR.out]; rfl, hb.out⟩
  by_cases h1 : n ≤ 16
  case neg =>
    have hR : Hid (okB a s f n = false) := Lib.hid (Bool.eq_false_iff.2 fun hk => by have := qK.out.1 hk; omega)
    clear qK
    skip
    go_enter Try.func19, Try.ntmps19
    go_wp2_with fail
    go_ret
    exact ⟨by rw [hR.out]; rfl, hb.out⟩
  obtain ⟨r, er⟩ : ∃ r, 4096 - n = r := ⟨_, rfl⟩
  have w1 : IntKind.i64.wrap (4096 - n) = r := by rw [IntKind.wrap_i64]; omega
  by_cases h2 : 0 ≤ a
  case neg =>
    have hR : Hid (okB a s f n = false) := Lib.hid (Bool.eq_false_iff.2 fun hk => by have := qK.out.1 hk; omega)
    clear qK
    clear er
    go_enter Try.func19, Try.ntmps19
    go_wp2_with fail
    go_ret
    exact ⟨by rw [hR.out]; rfl, hb.out⟩
  by_cases h3 : a ≤ r
  case neg =>
    have hR : Hid (okB a s f n = false) := Lib.hid (Bool.eq_false_iff.2 fun hk => by have := qK.out.1 hk; omega)
    clear qK
    clear er
    go_enter Try.func19, Try.ntmps19
    go_wp2_with fail
    go_ret
    exact ⟨by rw [hR.out]; rfl, hb.out⟩
  obtain ⟨q, eq⟩ : ∃ q, 16 - n = q := ⟨_, rfl⟩
  have w2 : IntKind.i64.wrap (16 - n) = q := by rw [IntKind.wrap_i64]; omega
  by_cases h4 : 0 ≤ f
  case neg =>
    have hR : Hid (okB a s f n = false) := Lib.hid (Bool.eq_false_iff.2 fun hk => by have := qK.out.1 hk; omega)
    clear qK
    clear er eq
    go_enter Try.func19, Try.ntmps19
    go_wp2_with fail
    go_ret
    exact ⟨by rw [hR.out]; rfl, hb.out⟩
  by_cases h5 : f ≤ q
  case neg =>
    have hR : Hid (okB a s f n = false) := Lib.hid (Bool.eq_false_iff.2 fun hk => by have := qK.out.1 hk; omega)
    clear qK
    clear er eq
    go_enter Try.func19, Try.ntmps19
    go_wp2_with fail
    go_ret
    exact ⟨by rw [hR.out]; rfl, hb.out⟩
  by_cases hs : s = 0
  · have hR : Hid (okB a s f n = false) := Lib.hid (Bool.eq_false_iff.2 fun hk => by have := qK.out.1 hk; omega)
    have q0 : (s != 0) = false := by simp [hs]
    clear qK hs
    clear er eq
    go_enter Try.func19, Try.ntmps19
    go_wp2_with fail
    go_ret
    exact ⟨by rw [hR.out]; rfl, hb.out⟩
  · have hR : Hid (okB a s f n = true) := Lib.hid (qK.out.2 (by omega))
    have q0 : (s != 0) = true := by simp [hs]
    clear qK hs
    clear er eq
    go_enter Try.func19, Try.ntmps19
    go_wp2_with fail
    go_ret
    exact ⟨by rw [hR.out]; rfl, hb.out⟩
set_option maxHeartbeats 1000000 in
theorem fits_any (a s f n : Int) (b : Bool) (w : World) : Calls Try.prog 10 #[.agg #[.int .i64 a, .int .u64 s, .int .i64 f, .int .i64 n, .bool b]] w fun e w' => e = .returned (.bool (okB a s f n)) ∧ Below w.heap.size w w' := by
  have hb := Lib.hid (below_alloc1 w (Obj.cells #[.int .i64 a, .int .u64 s, .int .i64 f, .int .i64 n, .bool b] 26))
  have qK := Lib.hid (@okB_iff a s f n)
  by_cases h0 : n ≥ 1
  case neg =>
    have hR : Hid (okB a s f n = false) := Lib.hid (Bool.eq_false_iff.2 fun hk => by have := qK.out.1 hk; omega)
    clear qK
    skip
    have g0 : ¬ 1 ≤ n := h0
    go_enter Try.func10, Try.ntmps10
    go_wp2_with fail
    go_ret
    exact ⟨by rw [hR.out]; rfl, hb.out⟩
  have g0 : 1 ≤ n := h0
  by_cases h1 : n ≤ 16
  case neg =>
    have hR : Hid (okB a s f n = false) := Lib.hid (Bool.eq_false_iff.2 fun hk => by have := qK.out.1 hk; omega)
    clear qK
    skip
    go_enter Try.func10, Try.ntmps10
    go_wp2_with fail
    go_ret
    exact ⟨by rw [hR.out]; rfl, hb.out⟩
  by_cases h2 : a ≥ 0
  case neg =>
    have hR : Hid (okB a s f n = false) := Lib.hid (Bool.eq_false_iff.2 fun hk => by have := qK.out.1 hk; omega)
    clear qK
    skip
    have g2 : ¬ 0 ≤ a := h2
    go_enter Try.func10, Try.ntmps10
    go_wp2_with fail
    go_ret
    exact ⟨by rw [hR.out]; rfl, hb.out⟩
  have g2 : 0 ≤ a := h2
  by_cases h3 : a < 4096
  case neg =>
    have hR : Hid (okB a s f n = false) := Lib.hid (Bool.eq_false_iff.2 fun hk => by have := qK.out.1 hk; omega)
    clear qK
    skip
    go_enter Try.func10, Try.ntmps10
    go_wp2_with fail
    go_ret
    exact ⟨by rw [hR.out]; rfl, hb.out⟩
  obtain ⟨r, er⟩ : ∃ r, a + n = r := ⟨_, rfl⟩
  have w1 : IntKind.i64.wrap (a + n) = r := by rw [IntKind.wrap_i64]; omega
  by_cases h4 : r ≤ 4096
  case neg =>
    have hR : Hid (okB a s f n = false) := Lib.hid (Bool.eq_false_iff.2 fun hk => by have := qK.out.1 hk; omega)
    clear qK
    clear er
    go_enter Try.func10, Try.ntmps10
    go_wp2_with fail
    go_ret
    exact ⟨by rw [hR.out]; rfl, hb.out⟩
  by_cases h5 : f ≥ 0
  case neg =>
    have hR : Hid (okB a s f n = false) := Lib.hid (Bool.eq_false_iff.2 fun hk => by have := qK.out.1 hk; omega)
    clear qK
    clear er
    have g5 : ¬ 0 ≤ f := h5
    go_enter Try.func10, Try.ntmps10
    go_wp2_with fail
    go_ret
    exact ⟨by rw [hR.out]; rfl, hb.out⟩
  have g5 : 0 ≤ f := h5
  by_cases h6 : f ≤ 16
  case neg =>
    have hR : Hid (okB a s f n = false) := Lib.hid (Bool.eq_false_iff.2 fun hk => by have := qK.out.1 hk; omega)
    clear qK
    clear er
    go_enter Try.func10, Try.ntmps10
    go_wp2_with fail
    go_ret
    exact ⟨by rw [hR.out]; rfl, hb.out⟩
  obtain ⟨q, eq⟩ : ∃ q, f + n = q := ⟨_, rfl⟩
  have w2 : IntKind.i64.wrap (f + n) = q := by rw [IntKind.wrap_i64]; omega
  by_cases h7 : q ≤ 16
  case neg =>
    have hR : Hid (okB a s f n = false) := Lib.hid (Bool.eq_false_iff.2 fun hk => by have := qK.out.1 hk; omega)
    clear qK
    clear er eq
    go_enter Try.func10, Try.ntmps10
    go_wp2_with fail
    go_ret
    exact ⟨by rw [hR.out]; rfl, hb.out⟩
  by_cases hs : s = 0
  · have hR : Hid (okB a s f n = false) := Lib.hid (Bool.eq_false_iff.2 fun hk => by have := qK.out.1 hk; omega)
    have q0 : (s != 0) = false := by simp [hs]
    clear qK hs
    clear er eq
    go_enter Try.func10, Try.ntmps10
    go_wp2_with fail
    go_ret
    exact ⟨by rw [hR.out]; rfl, hb.out⟩
  · have hR : Hid (okB a s f n = true) := Lib.hid (qK.out.2 (by omega))
    have q0 : (s != 0) = true := by simp [hs]
    clear qK hs
    clear er eq
    go_enter Try.func10, Try.ntmps10
    go_wp2_with fail
    go_ret
    exact ⟨by rw [hR.out]; rfl, hb.out⟩
theorem over_ok {a n a' n' : Int} (s f s' f' : Int) (b b' : Bool) (h : 0 ≤ a ∧ a ≤ 4096 ∧ 0 ≤ n ∧ n ≤ 16) (h' : 0 ≤ a' ∧ a' ≤ 4096 ∧ 0 ≤ n' ∧ n' ≤ 16) (w : World) :
    Calls Try.prog 11 #[.agg #[.int .i64 a, .int .u64 s, .int .i64 f, .int .i64 n, .bool b], .agg #[.int .i64 a', .int .u64 s', .int .i64 f', .int .i64 n', .bool b']] w fun e w' => e = .returned (.bool (ovB a n a' n')) ∧ Below w.heap.size w w' := by
  have hb0 := below_alloc1 w (Obj.cells #[.int .i64 a, .int .u64 s, .int .i64 f, .int .i64 n, .bool b] 26)
  have hb := Lib.hid (hb0.alloc hb0.size (Obj.cells #[.int .i64 a', .int .u64 s', .int .i64 f', .int .i64 n', .bool b'] 26))
  obtain ⟨r, er⟩ : ∃ r, a + n = r := ⟨_, rfl⟩
  have e1 : IntKind.i64.wrap (a + n) = r := by rw [IntKind.wrap_i64]; omega
  obtain ⟨r', er'⟩ : ∃ r', a' + n' = r' := ⟨_, rfl⟩
  have e1' : IntKind.i64.wrap (a' + n') = r' := by rw [IntKind.wrap_i64]; omega
  unfold ovB
  rw [er, er']
  clear er er' h h' hb0
  by_cases h1 : a < r'
  · have hR : Hid ((decide (a < r') && decide (a' < r)) = decide (a' < r)) := Lib.hid (by simp [h1])
    rw [hR.out]
    obtain ⟨q, eq⟩ : ∃ q, decide (a' < r) = q := ⟨_, rfl⟩
    rw [eq]
    go_enter Try.func11, Try.ntmps11
    go_wp2_with fail
    go_ret
    exact ⟨rfl, hb.out⟩
  · have hR : Hid ((decide (a < r') && decide (a' < r)) = false) := Lib.hid (by simp [h1])
    rw [hR.out]
    go_enter Try.func11, Try.ntmps11
    go_wp2_with fail
    go_ret
    exact ⟨rfl, hb.out⟩
end Go.Proofs.Ytbjegfkjibfadaa
