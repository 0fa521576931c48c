import Derived.Test.YtojnokaeopadfaaFc
import Derived.Test.YtojnokaeopadfaaMa
import Derived.Deep.LoopGhost
import Derived.RowKit3
namespace Go.Proofs.Ytojnokaeopadfaa
open Go.RowKit
set_option linter.unusedVariables false
set_option linter.unusedSimpArgs false

theorem plc_bounds {b : Nat} (h : Flo.rung b < 9218868437227405312) : -1074 ≤ Flo.plc b ∧ Flo.plc b ≤ 971 := by
  unfold Flo.plc; split <;> omega
def OfRel (b : Nat) (s : Bool) (w : World) (g : Nat) (wr : World) : Prop :=
  ∃ (M j : Nat) (P : Int), Flo.OfInv (Flo.sigm b) M j ∧ g = 60 - j ∧ P = Flo.plc b - j ∧ -1126 ≤ P ∧ P ≤ 971 ∧ wr = (w.alloc (Obj.cells #[Value.int IntKind.u8 0, Value.bool false, Value.int IntKind.u64 0, Value.int IntKind.i64 0] 97)).alloc (Obj.cells #[Value.int IntKind.u8 102, Value.bool s, Value.int IntKind.u64 M, Value.int IntKind.i64 P] 97)
set_option maxHeartbeats 1000000 in
theorem of_fin (b X F : Nat) (s : Bool) (w : World) (h : b < 18446744073709551616) (hX : b / 4503599627370496 % 2048 = X) (hF : b % 4503599627370496 = F)
    (hs : (b / 9223372036854775808 == 1) = s) (h1 : X < 2047) :
    Calls Try.prog 66 #[.int .u64 b] w fun e w' => e = .returned (.agg #[.int .u8 102, .bool s, .int .u64 (Flo.oM b), .int .i64 (Flo.oE b)]) ∧ Grown w w' := by
  have hb := bx b h
  have hf := bf b h
  have hp : -1074 ≤ Flo.plc b ∧ Flo.plc b ≤ 971 := plc_bounds (by unfold Flo.rung; omega)
  rw [hX] at hb
  rw [hF] at hf
  have t1 : ((X : Int) == 2047) = false := by simp; omega
  have hF' : F < 4503599627370496 := by omega
  have hs' : ((b : Int) / 9223372036854775808 == 1) = s := by
    rw [← hs, Bool.eq_iff_iff, beq_iff_eq, beq_iff_eq]; omega
  have q3 : Flo.OfInv (Flo.sigm b) (Flo.sigm b) 0 := Flo.ofInv_zero b
  by_cases h0 : X = 0
  all_goals
    first
      | (have q1 : Flo.sigm b = F := by unfold Flo.sigm Flo.rung; rw [if_pos (by omega)]; omega
         have q2 : Flo.plc b = -1074 := by unfold Flo.plc Flo.rung; rw [if_pos (by omega)]
         have t2 : ((X : Int) == 0) = true := by simp; omega
         have Q := Lib.hid (And.intro q1 (And.intro q2 (And.intro q3 hp)))
         clear hX hF hs q1 q2 q3 h0 hp)
      | (have q1 : Flo.sigm b = F + 4503599627370496 := by unfold Flo.sigm Flo.rung; rw [if_neg (by omega)]; omega
         have q2 : Flo.plc b = (X : Int) - 1075 := by unfold Flo.plc Flo.rung; rw [if_neg (by omega)]; omega
         have t2 : ((X : Int) == 0) = false := by simp; omega
         have Q := Lib.hid (And.intro q1 (And.intro q2 (And.intro q3 hp)))
         clear hX hF hs q1 q2 q3 h0 hp)
    go_enter Try.func66, Try.ntmps66
    go_wp2
    go_loopg [] 60 (fun g wr => OfRel b s w g wr)
    case atStart =>
      obtain ⟨q1, q2, q3, hp⟩ := Q.out
      exact ⟨_, 0, Flo.plc b, q3, rfl, by simp, by omega, by omega, by first | (rw [q1, q2]; done) | (rw [q1, q2]; simp)⟩
    case round =>
      obtain ⟨M, j, P, hi, hg, hP, hP1, hP2, rfl⟩ := hrel
      have hj : j ≤ 52 := hi.2.2.2.1
      have hM : M < 9007199254740992 := hi.2.2.2.2
      have HP := Lib.hid hP
      have HG := Lib.hid hg
      have HI := Lib.hid hi
      have HQ := Lib.hid Q.out
      clear hP hg hi Q
      by_cases hz : M = 0 ∨ 4503599627370496 ≤ M
      · have hend := Lib.hid (Flo.ofInv_end HI.out hz)
        by_cases hz0 : M = 0
        · subst hz0
          clear hz
          have hcast : ((0 : Nat) : Int) = 0 := rfl
          go_wp2
          refine bodyPost_ret (v := .agg #[.int .u8 102, .bool s, .int .u64 0, .int .i64 P]) (by simp [results, Try.results66, go_sem]) rfl ⟨?_, ?_⟩
          · obtain ⟨e1, e2⟩ := hend.out
            rw [← e1, HP.out, e2]; rfl
          · exact ((Grown.refl _).alloc _ _).alloc _ _
        · have m1 : ((M : Int) != 0) = true := by simpa using hz0
          have m2 : ¬ (M : Int) < 4503599627370496 := by omega
          clear hz
          go_wp2
          refine bodyPost_ret (v := .agg #[.int .u8 102, .bool s, .int .u64 M, .int .i64 P]) (by simp [results, Try.results66, go_sem]) rfl ⟨?_, ?_⟩
          · obtain ⟨e1, e2⟩ := hend.out
            rw [← e1, HP.out, e2]; rfl
          · exact ((Grown.refl _).alloc _ _).alloc _ _
      · have m1 : ((M : Int) != 0) = true := by simp; omega
        have m2 : (M : Int) < 4503599627370496 := by omega
        have hend := Lib.hid (Flo.ofInv_step HI.out (by omega) (by omega))
        have hj2 : j + 1 ≤ 52 := hend.out.2.2.2.1
        clear hz
        go_wp2
        go_roundg (60 - (j + 1))
        case measure => rw [HG.out]; omega
        case rel => exact ⟨M * 2, j + 1, P - 1, hend.out, rfl, by rw [HP.out]; omega, by have := HQ.out.2.2.2; have := HP.out; omega, by omega, by go_num⟩
set_option maxHeartbeats 1000000 in
theorem of_out (b F : Nat) (s : Bool) (w : World) (h : b < 18446744073709551616) (hX : b / 4503599627370496 % 2048 = 2047) (hF : b % 4503599627370496 = F)
    (hs : (b / 9223372036854775808 == 1) = s) :
    Calls Try.prog 66 #[.int .u64 b] w fun e w' => e = .returned (.agg #[.int .u8 (if F = 0 then 105 else 110 : Nat), .bool s, .int .u64 F, .int .i64 2047]) ∧ Grown w w' := by
  have hb := bx b h
  have hf := bf b h
  rw [hX] at hb
  rw [hF] at hf
  have hs' : ((b : Int) / 9223372036854775808 == 1) = s := by
    rw [← hs, Bool.eq_iff_iff, beq_iff_eq, beq_iff_eq]; omega
  by_cases h0 : F = 0
  · subst h0
    rw [if_pos rfl]
    clear hX hF hs
    go_enter Try.func66, Try.ntmps66
    go_wp2
    exact bodyPost_ret (v := .agg #[.int .u8 105, .bool s, .int .u64 0, .int .i64 2047]) (by simp [results, Try.results66, go_sem]) rfl ⟨rfl, ((Grown.refl _).alloc _ _).alloc _ _⟩
  · have m1 : ((F : Int) != 0) = true := by simpa using h0
    rw [if_neg h0]
    clear hX hF hs h0
    go_enter Try.func66, Try.ntmps66
    go_wp2
    exact bodyPost_ret (v := .agg #[.int .u8 110, .bool s, .int .u64 F, .int .i64 2047]) (by simp [results, Try.results66, go_sem]) rfl ⟨rfl, ((Grown.refl _).alloc _ _).alloc _ _⟩
/-- The letter of what a word is: f, i or n. -/
def kind (b : Nat) : Nat := if Flo.rung b < 9218868437227405312 then 102 else if Flo.rung b = 9218868437227405312 then 105 else 110
/-- What the document's answer takes a word apart into. -/
def ofV (b : Nat) : Value := .agg #[.int .u8 (kind b), .bool (Flo.sg b), .int .u64 (if kind b = 102 then Flo.oM b else b % 4503599627370496 : Nat), .int .i64 (if kind b = 102 then Flo.oE b else 2047)]
theorem of_any (b : Nat) (w : World) (h : b < 18446744073709551616) :
    Calls Try.prog 66 #[.int .u64 b] w fun e w' => e = .returned (ofV b) ∧ Grown w w' := by
  have hs : (b / 9223372036854775808 == 1) = Flo.sg b := by
    unfold Flo.sg; rw [Bool.eq_iff_iff, beq_iff_eq, beq_iff_eq]; omega
  unfold ofV
  by_cases hk : Flo.rung b < 9218868437227405312
  · have e1 : kind b = 102 := if_pos hk
    rw [if_pos e1, if_pos e1, e1]
    exact of_fin b _ _ _ w h rfl rfl hs (by unfold Flo.rung at hk; omega)
  · have hX : b / 4503599627370496 % 2048 = 2047 := by unfold Flo.rung at hk; omega
    have e1 : kind b = if b % 4503599627370496 = 0 then 105 else 110 := by
      unfold kind
      rw [if_neg hk]
      unfold Flo.rung at hk ⊢
      by_cases h2 : b % 4503599627370496 = 0
      · rw [if_pos h2, if_pos (by omega)]
      · rw [if_neg h2, if_neg (by omega)]
    have e2 : kind b ≠ 102 := by rw [e1]; split <;> omega
    rw [if_neg e2, if_neg e2, e1]
    exact of_out b _ _ w h hX rfl hs
end Go.Proofs.Ytojnokaeopadfaa
