import Derived.Test.YtojnokaeopadfaaAe
import Derived.Test.YtojnokaeopadfaaMa
namespace Go.Proofs.Ytojnokaeopadfaa
open Go.RowKit
set_option linter.unusedVariables false
set_option linter.unusedSimpArgs false

theorem or1 (q : Nat) (h : q < 18446744073709551616) : bits .or .u64 (q : Int) 1 = ((q / 2 * 2 + 1 : Nat) : Int) := by
  refine (u64_or_nat q 1 h (by omega)).trans ?_
  rw [Flo.or_one]
theorem bne_t {l : Nat} (h : l ≠ 0) : ((l : Int) != 0) = true := by simpa using h
theorem wmul2 (q : Nat) (h : q < 288230376151711744) : IntKind.u64.wrap ((q : Int) * 2) = ((q * 2 : Nat) : Int) := by rw [IntKind.wrap_u64]; omega
theorem wsub (a b : Nat) (h : b ≤ a) (h2 : a < 18446744073709551616) : IntKind.u64.wrap ((a : Int) - b) = ((a - b : Nat) : Int) := by rw [IntKind.wrap_u64]; omega
set_option maxRecDepth 100000 in
set_option maxHeartbeats 4000000 in
theorem rdiv_main (x y A B R : Nat) (Ex Ey : Int) (sx sy : Bool) (w : World) (q1 : -1200 ≤ Ex) (q2 : Ex ≤ 1000) (q3 : -1200 ≤ Ey) (q4 : Ey ≤ 1000)
    (H1 : Hid (OfC x 102 sx A Ex)) (H2 : Hid (OfC y 102 sy B Ey)) (z1 : ((A : Int) == 0) = false) (z2 : ((B : Int) == 0) = false)
    (hA : Hid (A < 2 * B ∧ B < 9007199254740992 ∧ 0 < B))
    (HR : Hid (∀ w, Calls Try.prog 68 #[.bool (sx != sy), .int .u64 (Flo.roq (A * 2 ^ 56) B), .int .i64 (Ex - Ey - 56)] w fun e w' => e = .returned (.int .u64 R) ∧ w = w')) :
    Calls Try.prog 44 #[.int .u64 x, .int .u64 y] w fun e w' => e = .returned (.int .u64 R) ∧ Grown w w' := by
  have hc2 : ((102 : Nat) : Int) = 102 := rfl
  go_enter Try.func44, Try.ntmps44
  go_wp2_with fail
  refine (H1.out _).mono ?_; rintro e w1 ⟨rfl, g1⟩
  go_wp2_with fail
  refine (H2.out _).mono ?_; rintro e w2 ⟨rfl, g2⟩
  have G := Lib.hid (grown_trans g1 g2)
  clear H1 H2 g1 g2
  go_wp2_with fail
  go_quiet (fail)
  go_wp2_with fail
  go_quiet (fail)
  go_wp2_with fail
  go_loop [10, 11, 12] (fun a b c => ∃ q r k : Nat, k ≤ 57 ∧ Flo.DivInv A B k q r ∧ a = .int .u64 q ∧ b = .int .u64 r ∧ c = .int .i64 k) (fun _ _ c => 57 - (intOf c).toNat)
  case atStart => exact ⟨0, A, 0, by omega, Flo.divInv_zero hA.out.1, rfl, rfl, rfl⟩
  case round =>
    obtain ⟨q, r, k, hk, hi, rfl, rfl, rfl⟩ := hrel
    have HI := Lib.hid hi
    clear hi
    by_cases hlt : k < 57
    · obtain ⟨bq, br⟩ := Flo.divInv_bd HI.out hk hA.out.2.1
      by_cases hr : B ≤ r
      · have hn := Lib.hid (Flo.divInv_yes HI.out hr)
        have f1 := wmul2 q (by omega)
        have f2 := or1 (q * 2) (by omega)
        rw [show q * 2 / 2 * 2 + 1 = q * 2 + 1 by omega] at f2
        have f3 := wsub r B hr (by omega)
        have f4 := wmul2 (r - B) (by omega)
        have ht : decide (B ≤ r) = true := decide_eq_true hr
        obtain ⟨u, eu⟩ : ∃ u, q * 2 = u := ⟨_, rfl⟩
        obtain ⟨v, ev⟩ : ∃ u, q * 2 + 1 = u := ⟨_, rfl⟩
        obtain ⟨r1, er⟩ : ∃ u, r - B = u := ⟨_, rfl⟩
        obtain ⟨r2, er2⟩ : ∃ u, r1 * 2 = u := ⟨_, rfl⟩
        rw [eu] at f1
        rw [eu, ← eu, ev, eu] at f2
        rw [er] at f3
        rw [er, er2] at f4
        rw [ev, er, er2] at hn
        clear eu ev er er2 hr HI bq br hk
        go_wp2_with fail
        go_round
        case rel => exact ⟨_, _, _, ⟨v, r2, k + 1, by omega, hn.out, rfl, rfl, rfl⟩, rfl, rfl, by go_num⟩
        case measure => simp [intOf]; omega
      · have hn := Lib.hid (Flo.divInv_no HI.out hr)
        have f1 := wmul2 q (by omega)
        have f4 := wmul2 r (by omega)
        have ht : decide (B ≤ r) = false := decide_eq_false hr
        obtain ⟨u, eu⟩ : ∃ u, q * 2 = u := ⟨_, rfl⟩
        obtain ⟨r2, er2⟩ : ∃ u, r * 2 = u := ⟨_, rfl⟩
        rw [eu] at f1
        rw [er2] at f4
        rw [eu, er2] at hn
        clear eu er2 hr HI bq br hk
        go_wp2_with fail
        go_round
        case rel => exact ⟨_, _, _, ⟨u, r2, k + 1, by omega, hn.out, rfl, rfl, rfl⟩, rfl, rfl, by go_num⟩
        case measure => simp [intOf]; omega
    · obtain rfl : k = 57 := by omega
      obtain ⟨bq, br⟩ := Flo.divInv_bd HI.out hk hA.out.2.1
      have he := Flo.divInv_end HI.out hA.out.2.2
      have hk57 : ((57 : Nat) : Int) = 57 := rfl
      by_cases hr : r = 0
      · subst hr
        rw [if_pos rfl] at he
        rw [he] at HR
        have hr0 : ((0 : Nat) : Int) = 0 := rfl
        clear he HI bq br hk hlt
        go_wp2_with fail
        refine (HR.out _).mono ?_; rintro e w' ⟨rfl, rfl⟩
        go_wp2_with fail
        go_ret
        exact ⟨rfl, grown_trans ((G.out.alloc _ _).alloc _ _) (grown_drewN _ _)⟩
      · rw [if_neg hr] at he
        rw [he] at HR
        have hr0 := bne_t hr
        have f1 := or1 q (by omega)
        obtain ⟨v, ev⟩ : ∃ u, q / 2 * 2 + 1 = u := ⟨_, rfl⟩
        rw [ev] at f1 HR
        clear he HI bq br hk hlt ev hr
        go_wp2_with fail
        refine (HR.out _).mono ?_; rintro e w' ⟨rfl, rfl⟩
        go_wp2_with fail
        go_ret
        exact ⟨rfl, grown_trans ((G.out.alloc _ _).alloc _ _) (grown_drewN _ _)⟩
end Go.Proofs.Ytojnokaeopadfaa
