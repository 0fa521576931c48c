import Derived.Test.YtlohilpeidmemaaDoorAb
import Derived.WalkKit
import Derived.Lib.Walk
import Derived.BigCall
import Derived.BigGuard
import Derived.Lib.MinMax
import Derived.Lib.ItoaLen
import Derived.Laws.Concat
namespace Go.Proofs.YtlohilpeidmemaaDoor
open Go.RowKit
set_option linter.unusedVariables false
set_option linter.unusedSimpArgs false

theorem isreg_any (n : Int) (w : World) : Calls Tryd.prog 17 #[.int .i64 n] w fun e w' => e = .returned (.bool (decide (0 ≤ n ∧ n < 16))) ∧ w = w' := by
  by_cases h0 : 0 ≤ n
  · by_cases h1 : n < 16
    · go_enter Tryd.func17, Tryd.ntmps17
      go_wp2_with fail
      go_ret
      exact ⟨by simp [h0, h1], rfl⟩
    · go_enter Tryd.func17, Tryd.ntmps17
      go_wp2_with fail
      go_ret
      exact ⟨by simp [h0, h1], rfl⟩
  · go_enter Tryd.func17, Tryd.ntmps17
    go_wp2_with fail
    go_ret
    exact ⟨by simp; omega, rfl⟩
theorem add_c (l m : List UInt8) (h : l.length + m.length ≤ 1000000) (w : World) : (Op.stringOp .add (S l) (S m)).run Tryd.prog w = .ok (.string (S (l ++ m))) w := by
  rw [run_string_add_sum w _ _ (by rw [S_size, S_size]; omega), S_append]
theorem reg_any (n : Int) (w : World) (hn : 0 ≤ n ∧ n < 16) : Calls Tryd.prog 18 #[.int .i64 n] w fun e w' => e = .returned (.string (S (Isa.reg n))) ∧ w = w' := by
  obtain ⟨k, rfl⟩ : ∃ k : Nat, n = k := ⟨n.toNat, by omega⟩
  have C := Lib.hid (itoa_s k (by omega) w)
  have A1 : ∀ w, (Op.stringOp .add { data := #[32, 114] } (S (Lib.itoa k))).run Tryd.prog w = .ok (.string (S (Isa.reg k))) w := add_c [32, 114] (Lib.itoa k) (by have := Lib.itoa_length_le k (by omega) (by omega); simp; omega)
  clear hn
  go_enter Tryd.func18, Tryd.ntmps18
  go_wp2_with fail
  refine C.out.mono ?_
  rintro e w1 ⟨rfl, rfl⟩
  go_wp2_with fail
  go_ret
  exact ⟨rfl, rfl⟩
theorem ret_bool {b : Bool} {p : Prop} [Decidable p] (h : b = true ↔ p) : Ending.returned (.bool b) = .returned (.bool (decide p)) := by
  congr 2
  cases b
  · simp only [Bool.false_eq_true, false_iff] at h; simp [h]
  · simp only [true_iff] at h; simp [h]
set_option maxHeartbeats 1000000 in
theorem right_any (o a b c m : Int) (w : World) : Calls Tryd.prog 9 #[.agg #[.int .i64 o, .int .i64 a, .int .i64 b, .int .i64 c, .int .i32 m]] w fun e w' => e = .returned (.bool (decide (Isa.Right o a b c))) ∧ Below w.heap.size w w' := by
  obtain ⟨ra, ea⟩ : ∃ r, decide (0 ≤ a ∧ a < 16) = r := ⟨_, rfl⟩
  obtain ⟨rb, eb⟩ : ∃ r, decide (0 ≤ b ∧ b < 16) = r := ⟨_, rfl⟩
  obtain ⟨rc, ec⟩ : ∃ r, decide (0 ≤ c ∧ c < 16) = r := ⟨_, rfl⟩
  have C1 := Lib.hid (fun (W : World) => isreg_any a W)
  have C2 := Lib.hid (fun (W : World) => isreg_any b W)
  have C3 := Lib.hid (fun (W : World) => isreg_any c W)
  rw [ea] at C1
  rw [eb] at C2
  rw [ec] at C3
  have EA := Lib.hid (show ra = true ↔ (0 ≤ a ∧ a < 16) by rw [← ea]; exact decide_eq_true_iff)
  have EB := Lib.hid (show rb = true ↔ (0 ≤ b ∧ b < 16) by rw [← eb]; exact decide_eq_true_iff)
  have EC := Lib.hid (show rc = true ↔ (0 ≤ c ∧ c < 16) by rw [← ec]; exact decide_eq_true_iff)
  clear ea eb ec
  have HB := Lib.hid (Below.alloc (Below.refl w.heap.size w) (Nat.le_refl _) (Obj.cells #[.int .i64 o, .int .i64 a, .int .i64 b, .int .i64 c, .int .i32 m] 23))
  by_cases h0 : 1 ≤ o
  · by_cases h1 : o < 44
    · cases ra
      · skip
        go_enter Tryd.func9, Tryd.ntmps9
        go_wp2_with fail
        refine (C1.out _).mono ?_
        rintro e w1 ⟨rfl, rfl⟩
        go_wp2_with fail
        go_ret
        exact ⟨ret_bool (by unfold Isa.Right; have a1 := EA.out; have b1 := EB.out; have c1 := EC.out; simp only [Bool.false_eq_true, true_iff, false_iff] at a1 b1 c1 ⊢; omega), HB.out⟩
      · cases rb
        · skip
          go_enter Tryd.func9, Tryd.ntmps9
          go_wp2_with fail
          refine (C1.out _).mono ?_
          rintro e w1 ⟨rfl, rfl⟩
          go_wp2_with fail
          refine (C2.out _).mono ?_
          rintro e w1 ⟨rfl, rfl⟩
          go_wp2_with fail
          go_ret
          exact ⟨ret_bool (by unfold Isa.Right; have a1 := EA.out; have b1 := EB.out; have c1 := EC.out; simp only [Bool.false_eq_true, true_iff, false_iff] at a1 b1 c1 ⊢; omega), HB.out⟩
        · cases rc
          · skip
            go_enter Tryd.func9, Tryd.ntmps9
            go_wp2_with fail
            refine (C1.out _).mono ?_
            rintro e w1 ⟨rfl, rfl⟩
            go_wp2_with fail
            refine (C2.out _).mono ?_
            rintro e w1 ⟨rfl, rfl⟩
            go_wp2_with fail
            refine (C3.out _).mono ?_
            rintro e w1 ⟨rfl, rfl⟩
            go_wp2_with fail
            go_ret
            exact ⟨ret_bool (by unfold Isa.Right; have a1 := EA.out; have b1 := EB.out; have c1 := EC.out; simp only [Bool.false_eq_true, true_iff, false_iff] at a1 b1 c1 ⊢; omega), HB.out⟩
          · skip
            go_enter Tryd.func9, Tryd.ntmps9
            go_wp2_with fail
            refine (C1.out _).mono ?_
            rintro e w1 ⟨rfl, rfl⟩
            go_wp2_with fail
            refine (C2.out _).mono ?_
            rintro e w1 ⟨rfl, rfl⟩
            go_wp2_with fail
            refine (C3.out _).mono ?_
            rintro e w1 ⟨rfl, rfl⟩
            go_wp2_with fail
            go_ret
            exact ⟨ret_bool (by unfold Isa.Right; have a1 := EA.out; have b1 := EB.out; have c1 := EC.out; simp only [Bool.false_eq_true, true_iff, false_iff] at a1 b1 c1 ⊢; omega), HB.out⟩
    · skip
      go_enter Tryd.func9, Tryd.ntmps9
      go_wp2_with fail
      go_ret
      exact ⟨ret_bool (by unfold Isa.Right; have a1 := EA.out; have b1 := EB.out; have c1 := EC.out; simp only [Bool.false_eq_true, true_iff, false_iff] at a1 b1 c1 ⊢; omega), HB.out⟩
  · skip
    go_enter Tryd.func9, Tryd.ntmps9
    go_wp2_with fail
    go_ret
    exact ⟨ret_bool (by unfold Isa.Right; have a1 := EA.out; have b1 := EB.out; have c1 := EC.out; simp only [Bool.false_eq_true, true_iff, false_iff] at a1 b1 c1 ⊢; omega), HB.out⟩
end Go.Proofs.YtlohilpeidmemaaDoor
