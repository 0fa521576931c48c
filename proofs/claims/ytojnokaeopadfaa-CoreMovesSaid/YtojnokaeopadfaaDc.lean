import Derived.Test.YtojnokaeopadfaaDb
import Derived.Test.YtojnokaeopadfaaMa
import Derived.Test.YtojnokaeopadfaaFg
namespace Go.Proofs.Ytojnokaeopadfaa
open Go.RowKit
set_option linter.unusedVariables false
set_option linter.unusedSimpArgs false

set_option maxRecDepth 100000 in
set_option maxHeartbeats 4000000 in
theorem rsqrt_odd (x A0 A R : Nat) (E t h : Int) (w : World) (q1 : -1200 ≤ E) (q2 : E ≤ 1000) (H1 : Hid (OfC x 102 false A0 E)) (z1 : ((A0 : Int) == 0) = false)
    (hm : E.tmod 2 = t) (ht : (t != 0) = true) (hAA : IntKind.u64.wrap ((A0 : Int) * 2) = A) (hd : (E - 1).tdiv 2 = h) (q3 : -1200 ≤ h) (q4 : h ≤ 1000)
    (HA : Hid (A < 18014398509481984)) (HR : Hid (∀ root, Flo.IsRoot (A * 2 ^ 62) root → ∀ w, Calls Try.prog 68 #[.bool false, .int .u64 (Flo.ros (A * 2 ^ 62) root), .int .i64 (h - 32)] w fun e w' => e = .returned (.int .u64 R) ∧ w = w')) :
    Calls Try.prog 49 #[.int .u64 x] w fun e w' => e = .returned (.int .u64 R) ∧ Grown w w' := by
  have hc2 : ((102 : Nat) : Int) = 102 := rfl
  go_enter Try.func49, Try.ntmps49
  go_wp2_with fail
  refine (H1.out _).mono ?_; rintro e w1 ⟨rfl, g1⟩
  have G := Lib.hid g1
  clear H1 g1
  go_wp2_with fail
  go_loop [4, 5, 6] (fun a b c => ∃ (root rest k : Nat) (i : Int), k ≤ 58 ∧ i = 26 - (k : Int) ∧ Flo.SqInv A k root rest ∧ a = .int .u64 root ∧ b = .int .u64 rest ∧ c = .int .i64 i) (fun _ _ c => (intOf c + 32).toNat)
  case atStart => exact ⟨0, 0, 0, 26, by omega, by omega, Flo.sqInv_zero HA.out, rfl, rfl, rfl⟩
  case round =>
    obtain ⟨root, rest, k, i, hk, hi, hinv, rfl, rfl, rfl⟩ := hrel
    have HI := Lib.hid hinv
    clear hinv
    obtain ⟨bq, br⟩ := Flo.sq_bd HI.out hk
    by_cases hlt : k < 58
    · have hA := HA.out
      by_cases hpos : k ≤ 26
      · obtain ⟨t, rfl⟩ : ∃ t : Nat, i = (t : Int) := ⟨i.toNat, by omega⟩
        have ht26 : t ≤ 26 := by omega
        have hp := Flo.pre_low (A := A) (k := k) (by omega)
        rw [show 26 - k = t by omega] at hp
        have g1 : (A : Int) / 2 ^ (2 * t) = ((A / 2 ^ (2 * t) : Nat) : Int) := by rw [int_pow]; rfl
        have g2 := and3 (A / 2 ^ (2 * t)) (Nat.lt_of_le_of_lt (Nat.div_le_self _ _) (by omega))
        have htwo : A / 2 ^ (2 * t) % 4 < 4 := Nat.mod_lt _ (by omega)
        generalize A / 2 ^ (2 * t) = a' at g1 g2 hp htwo
        generalize a' % 4 = two at g2 hp htwo
        have g3 := or_two rest two (by omega) htwo
        have g0 := wmul4 rest (by omega)
        have g4 := wmul4 root (by omega)
        have g5 : bits .or .u64 ((root * 4 : Nat) : Int) 1 = ((root * 4 + 1 : Nat) : Int) := or_two root 1 (by omega) (by omega)
        have g6 := wmul2 root (by omega)
        by_cases hr : root * 4 + 1 ≤ rest * 4 + two
        · have hn := Lib.hid (Flo.sq_yes HI.out hp htwo hr)
          have g7 := wsub (rest * 4 + two) (root * 4 + 1) hr (by omega)
          have g8 := or1 (root * 2) (by omega)
          rw [show root * 2 / 2 * 2 + 1 = root * 2 + 1 by omega] at g8
          have ht : decide (root * 4 + 1 ≤ rest * 4 + two) = true := decide_eq_true hr
          have HX := Lib.hid hi
          have hk2 : k + 1 ≤ 58 := by omega
          clear hA hp htwo hr HI bq br hk hi hlt hpos
          obtain ⟨c4, e4⟩ : ∃ u, rest * 4 = u := ⟨_, rfl⟩
          obtain ⟨r4, e5⟩ : ∃ u, root * 4 = u := ⟨_, rfl⟩
          obtain ⟨r2, e6⟩ : ∃ u, root * 2 = u := ⟨_, rfl⟩
          rw [e4] at g0 g3 ht hn g7
          rw [e5] at g4 g5 ht hn g7
          rw [e6] at g6 hn g8
          obtain ⟨c5, e7⟩ : ∃ u, c4 + two = u := ⟨_, rfl⟩
          obtain ⟨r5, e8⟩ : ∃ u, r4 + 1 = u := ⟨_, rfl⟩
          rw [e7] at g3 ht hn g7
          rw [e8] at g5 ht hn g7
          obtain ⟨r3, e9⟩ : ∃ u, r2 + 1 = u := ⟨_, rfl⟩
          obtain ⟨c6, e10⟩ : ∃ u, c5 - r5 = u := ⟨_, rfl⟩
          rw [e9] at g8 hn
          rw [e10] at g7 hn
          clear e9 e10
          clear e4 e5 e6 e7 e8
          go_wp2_with fail
          go_round
          case rel => first | exact ⟨r3, c6, k + 1, (t : Int) - 1, hk2, by have := HX.out; omega, hn.out, rfl, rfl, rfl⟩ | exact ⟨_, _, _, ⟨r3, c6, k + 1, (t : Int) - 1, hk2, by have := HX.out; omega, hn.out, rfl, rfl, rfl⟩, rfl, rfl, rfl⟩
          case measure => simp [intOf]; omega
        · have hn := Lib.hid (Flo.sq_no HI.out hp htwo hr)
          have ht : decide (root * 4 + 1 ≤ rest * 4 + two) = false := decide_eq_false hr
          have HX := Lib.hid hi
          have hk2 : k + 1 ≤ 58 := by omega
          clear hA hp htwo hr HI bq br hk hi hlt hpos
          obtain ⟨c4, e4⟩ : ∃ u, rest * 4 = u := ⟨_, rfl⟩
          obtain ⟨r4, e5⟩ : ∃ u, root * 4 = u := ⟨_, rfl⟩
          obtain ⟨r2, e6⟩ : ∃ u, root * 2 = u := ⟨_, rfl⟩
          rw [e4] at g0 g3 ht hn
          rw [e5] at g4 g5 ht
          rw [e6] at g6 hn
          obtain ⟨c5, e7⟩ : ∃ u, c4 + two = u := ⟨_, rfl⟩
          obtain ⟨r5, e8⟩ : ∃ u, r4 + 1 = u := ⟨_, rfl⟩
          rw [e7] at g3 ht hn
          rw [e8] at g5 ht
          clear e4 e5 e6 e7 e8
          go_wp2_with fail
          go_round
          case rel => first | exact ⟨r2, c5, k + 1, (t : Int) - 1, hk2, by have := HX.out; omega, hn.out, rfl, rfl, rfl⟩ | exact ⟨_, _, _, ⟨r2, c5, k + 1, (t : Int) - 1, hk2, by have := HX.out; omega, hn.out, rfl, rfl, rfl⟩, rfl, rfl, rfl⟩
          case measure => simp [intOf]; omega
      · have hi1 : i < 0 := by omega
        have hi2 : -31 ≤ i := by omega
        have hp : Flo.pre A (k + 1) = 4 * Flo.pre A k + 0 := Flo.pre_high (by omega)
        have htwo : 0 < 4 := by omega
        obtain ⟨two, e2⟩ : ∃ two, two = 0 := ⟨_, rfl⟩
        rw [← e2] at hp htwo
        have g3 : bits .or .u64 ((rest * 4 : Nat) : Int) 0 = ((rest * 4 + two : Nat) : Int) := by rw [e2]; exact or_two rest 0 (by omega) (by omega)
        clear e2
        have g0 := wmul4 rest (by omega)
        have g4 := wmul4 root (by omega)
        have g5 : bits .or .u64 ((root * 4 : Nat) : Int) 1 = ((root * 4 + 1 : Nat) : Int) := or_two root 1 (by omega) (by omega)
        have g6 := wmul2 root (by omega)
        by_cases hr : root * 4 + 1 ≤ rest * 4 + two
        · have hn := Lib.hid (Flo.sq_yes HI.out hp htwo hr)
          have g7 := wsub (rest * 4 + two) (root * 4 + 1) hr (by omega)
          have g8 := or1 (root * 2) (by omega)
          rw [show root * 2 / 2 * 2 + 1 = root * 2 + 1 by omega] at g8
          have ht : decide (root * 4 + 1 ≤ rest * 4 + two) = true := decide_eq_true hr
          have HX := Lib.hid hi
          have hk2 : k + 1 ≤ 58 := by omega
          clear hA hp htwo hr HI bq br hk hi hlt hpos
          obtain ⟨c4, e4⟩ : ∃ u, rest * 4 = u := ⟨_, rfl⟩
          obtain ⟨r4, e5⟩ : ∃ u, root * 4 = u := ⟨_, rfl⟩
          obtain ⟨r2, e6⟩ : ∃ u, root * 2 = u := ⟨_, rfl⟩
          rw [e4] at g0 g3 ht hn g7
          rw [e5] at g4 g5 ht hn g7
          rw [e6] at g6 hn g8
          obtain ⟨c5, e7⟩ : ∃ u, c4 + two = u := ⟨_, rfl⟩
          obtain ⟨r5, e8⟩ : ∃ u, r4 + 1 = u := ⟨_, rfl⟩
          rw [e7] at g3 ht hn g7
          rw [e8] at g5 ht hn g7
          obtain ⟨r3, e9⟩ : ∃ u, r2 + 1 = u := ⟨_, rfl⟩
          obtain ⟨c6, e10⟩ : ∃ u, c5 - r5 = u := ⟨_, rfl⟩
          rw [e9] at g8 hn
          rw [e10] at g7 hn
          clear e9 e10
          clear e4 e5 e6 e7 e8
          go_wp2_with fail
          go_round
          case rel => first | exact ⟨r3, c6, k + 1, i - 1, hk2, by have := HX.out; omega, hn.out, rfl, rfl, rfl⟩ | exact ⟨_, _, _, ⟨r3, c6, k + 1, i - 1, hk2, by have := HX.out; omega, hn.out, rfl, rfl, rfl⟩, rfl, rfl, rfl⟩
          case measure => simp [intOf]; omega
        · have hn := Lib.hid (Flo.sq_no HI.out hp htwo hr)
          have ht : decide (root * 4 + 1 ≤ rest * 4 + two) = false := decide_eq_false hr
          have HX := Lib.hid hi
          have hk2 : k + 1 ≤ 58 := by omega
          clear hA hp htwo hr HI bq br hk hi hlt hpos
          obtain ⟨c4, e4⟩ : ∃ u, rest * 4 = u := ⟨_, rfl⟩
          obtain ⟨r4, e5⟩ : ∃ u, root * 4 = u := ⟨_, rfl⟩
          obtain ⟨r2, e6⟩ : ∃ u, root * 2 = u := ⟨_, rfl⟩
          rw [e4] at g0 g3 ht hn
          rw [e5] at g4 g5 ht
          rw [e6] at g6 hn
          obtain ⟨c5, e7⟩ : ∃ u, c4 + two = u := ⟨_, rfl⟩
          obtain ⟨r5, e8⟩ : ∃ u, r4 + 1 = u := ⟨_, rfl⟩
          rw [e7] at g3 ht hn
          rw [e8] at g5 ht
          clear e4 e5 e6 e7 e8
          go_wp2_with fail
          go_round
          case rel => first | exact ⟨r2, c5, k + 1, i - 1, hk2, by have := HX.out; omega, hn.out, rfl, rfl, rfl⟩ | exact ⟨_, _, _, ⟨r2, c5, k + 1, i - 1, hk2, by have := HX.out; omega, hn.out, rfl, rfl, rfl⟩, rfl, rfl, rfl⟩
          case measure => simp [intOf]; omega
    · obtain rfl : k = 58 := by omega
      obtain rfl : i = -32 := by omega
      obtain ⟨hroot, hros⟩ := Flo.sq_end HI.out
      have HR2 := HR.out root hroot
      rw [hros] at HR2
      have g6 := wmul2 root (by omega)
      by_cases hr : rest = 0
      · subst hr
        rw [if_pos rfl] at HR2
        have hr0 : ((0 : Nat) : Int) = 0 := rfl
        obtain ⟨u, eu⟩ : ∃ u, root * 2 = u := ⟨_, rfl⟩
        rw [eu] at g6 HR2
        have HS := Lib.hid HR2
        clear hros HI hroot bq br hk hlt eu HR2 HR HA
        go_wp2_with fail
        refine (HS.out _).mono ?_; rintro e w' ⟨rfl, rfl⟩
        go_wp2_with fail
        go_ret
        exact ⟨rfl, G.out.alloc _ _⟩
      · rw [if_neg hr] at HR2
        have hr0 := bne_t hr
        have g8 := or1 (root * 2) (by omega)
        rw [show root * 2 / 2 * 2 + 1 = root * 2 + 1 by omega] at g8
        obtain ⟨u, eu⟩ : ∃ u, root * 2 = u := ⟨_, rfl⟩
        rw [eu] at g6 g8 HR2
        obtain ⟨v, ev⟩ : ∃ v, u + 1 = v := ⟨_, rfl⟩
        rw [ev] at g8 HR2
        have HS := Lib.hid HR2
        clear hros HI hroot bq br hk hlt eu ev HR2 HR HA hr
        go_wp2_with fail
        refine (HS.out _).mono ?_; rintro e w' ⟨rfl, rfl⟩
        go_wp2_with fail
        go_ret
        exact ⟨rfl, G.out.alloc _ _⟩
end Go.Proofs.Ytojnokaeopadfaa
