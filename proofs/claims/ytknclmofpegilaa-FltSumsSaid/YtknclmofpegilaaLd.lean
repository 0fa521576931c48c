import Derived.Test.YtknclmofpegilaaAg
namespace Go.Proofs.Ytknclmofpegilaa
open Go.RowKit
set_option linter.unusedVariables false
set_option linter.unusedSimpArgs false

set_option maxHeartbeats 1000000 in
theorem sums_all (a b : Nat) (w : World) (ha : a < 18446744073709551616) (hb : b < 18446744073709551616) :
    Calls Try.prog 3 #[.int .u64 a, .int .u64 b] w fun e w' => e = .returned (.bool true) ∧ Grown w w' := by
  obtain ⟨B, hB⟩ : ∃ B, b ^^^ 9223372036854775808 = B := ⟨_, rfl⟩
  have hBl : B < 18446744073709551616 := hB ▸ (Flo.neg_word hb).1
  have c1 := fun w => addG a b w
  have c2 := fun w => radd_any a b w ha hb
  have c3 := fun w => subG a b w
  have c4 := fun w => radd_any a B w ha hBl
  have c5 := fun w => addG b a w
  rw [Flo.sub_neg hb, hB] at c3
  rw [Flo.add_comm b a] at c5
  generalize Flo.fAdd a b = r at c1 c2 c5
  generalize Flo.fAdd a B = q at c3 c4
  have f1 : bits .xor .u64 (b : Int) 9223372036854775808 = (B : Int) := by rw [← hB]; exact u64_xor_nat b 9223372036854775808 hb (by omega)
  have C := Lib.hid (And.intro c1 (And.intro c2 (And.intro c3 (And.intro c4 c5))))
  clear c1 c2 c3 c4 c5 hB hBl ha hb
  go_enter Try.func3, Try.ntmps3
  go_wp2_with fail
  refine (fit_any _).mono ?_; rintro e w' ⟨rfl, rfl⟩
  go_wp2_with fail
  refine (C.out.1 _).mono ?_; rintro e w1 ⟨rfl, g1⟩
  go_wp2_with fail
  refine (C.out.2.1 _).mono ?_; rintro e w2 ⟨rfl, g2⟩
  go_wp2_with fail
  refine (C.out.2.2.1 _).mono ?_; rintro e w3 ⟨rfl, g3⟩
  go_wp2_with fail
  refine (C.out.2.2.2.1 _).mono ?_; rintro e w4 ⟨rfl, g4⟩
  go_wp2_with fail
  refine (C.out.2.2.2.2 _).mono ?_; rintro e w5 ⟨rfl, g5⟩
  go_wp2_with fail
  refine (C.out.1 _).mono ?_; rintro e w6 ⟨rfl, g6⟩
  go_wp2_with fail
  go_ret
  exact ⟨rfl, grown_trans (grown_trans (grown_trans g1 g2) (grown_trans g3 g4)) (grown_trans g5 g6)⟩
end Go.Proofs.Ytknclmofpegilaa
