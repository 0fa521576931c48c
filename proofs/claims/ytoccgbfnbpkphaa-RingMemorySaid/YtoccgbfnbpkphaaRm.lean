/- RingCut. -/
import Derived.Test.YtoccgbfnbpkphaaRk
set_option linter.unusedVariables false
set_option linter.unusedSimpArgs false
namespace Go.Proofs.Ytoccgbfnbpkphaa
open Go.RowKit Rn
set_option linter.unusedVariables false
set_option linter.unusedSimpArgs false
theorem mod8 (x : Int) : ∃ (t u : Int) (p : Nat), x.tmod 8 = t ∧ RowKit.wrap64 (t + 8) = u ∧ IntKind.i64.wrap (t + 8) = u ∧ u.tmod 8 = (p : Int) ∧ p < 8 := by
  have h1 := Int.tmod_lt_of_pos x (show (0 : Int) < 8 by omega)
  have h2 := Int.lt_tmod_of_pos x (show (0 : Int) < 8 by omega)
  have e : RowKit.wrap64 (x.tmod 8 + 8) = x.tmod 8 + 8 := by unfold RowKit.wrap64; omega
  have e2 : IntKind.i64.wrap (x.tmod 8 + 8) = x.tmod 8 + 8 := by rw [IntKind.wrap_i64]; omega
  refine ⟨_, _, ((x.tmod 8 + 8) % 8).toNat, rfl, e, e2, ?_, by omega⟩
  rw [Int.tmod_eq_emod_of_nonneg (by omega)]
  omega
set_option maxRecDepth 100000 in
set_option maxHeartbeats 4000000 in
theorem cut_all (x : Int) (A : Option Addr) (l c : Nat) (bs : List Nat) (w : World) (x1 : -9223372036854775808 ≤ x) (x2 : x ≤ 9223372036854775807) (hn : bs.length = l) (hm : l ≤ 300) (hlc : l ≤ c) (hr : BR w A bs) (hb : ∀ y ∈ bs, y < 256) :
    Calls Try.prog 6 #[.int .i64 x, .slice A l c] w fun e w' => e = .returned (.bool true) ∧ Below w.heap.size w w' := by
  have B := Lib.hid (fit_any w)
  have HA := Lib.hid (And.intro hn (And.intro hr (And.intro hb (And.intro hm hlc))))
  have zv := zero_ring
  obtain ⟨Z, eZ⟩ : ∃ Z, zr.toArray = Z := ⟨_, rfl⟩
  rw [eZ] at zv
  have EZ := Lib.hid eZ
  obtain ⟨t, u, p, f1, f2, f2', f3, hp⟩ := mod8 x
  have h300 : ¬ (300 : Int) < l := by omega
  clear eZ hn hr hb hlc
  go_enter Try.func6, Try.ntmps6
  go_wp2_with fail
  refine B.out.mono ?_; rintro e w1 ⟨rfl, hb⟩
  have HN := Lib.hid (new_rs (T := []) hb (by simp))
  rw [EZ.out] at HN
  clear B hb
  go_wp2_with fail
  obtain ⟨R, eR⟩ : ∃ R, w1.heap.size = R := ⟨_, rfl⟩
  rw [eR] at HN ⊢
  clear zv eR EZ
  go_loopg [20] p (fun gh i wr => ∃ k : Nat, k ≤ p ∧ gh = p - k ∧ i = .int .i64 k ∧ Hid (RS w [] R (List.replicate k []) 0 [] wr))
  case atStart => exact ⟨0, by omega, by omega, rfl, HN⟩
  case round =>
    obtain ⟨k, hk, hg, rfl, hI⟩ := hrel
    by_cases hlt : k < p
    · have P := Lib.hid (push_rs hI.out (by simp; omega) none 0 0 [] rfl (BR.nil _ _) (by simp) (by omega))
      have l1 : (k : Int) < p := by omega
      clear hI
      go_wp2_with fail
      refine P.out.mono ?_; rintro e w2 ⟨rfl, h1, _⟩
      have H1 := Lib.hid h1
      clear h1 P
      go_wp2_with fail
      go_roundg (p - (k + 1))
      case rel => exact ⟨k + 1, by omega, rfl, by simp, Lib.hid (by rw [List.replicate_succ']; exact H1.out)⟩
      case measure => first | omega | (simp; omega)
    · obtain rfl : k = p := by omega
      have hrs := hI.out
      have l8 : (k : Int) < 8 := by omega
      have hbr := HA.out.2.1.below hrs.b
      have P := Lib.hid (push_rs hrs (by simp; omega) A l c bs HA.out.1 hbr HA.out.2.2.1 (by omega))
      clear hI hlt hk hg hrs hbr HN
      go_wp2_with fail
      refine P.out.mono ?_; rintro e w2 ⟨rfl, h1, _⟩
      have H1 := Lib.hid h1
      clear h1 P
      go_wp2_with fail
      obtain ⟨q, eq⟩ : ∃ q, bs.take 32 = q := ⟨_, rfl⟩
      rw [eq] at H1
      have EQ := Lib.hid eq
      clear eq
      go_loopg [32] k (fun gh i wr => ∃ j : Nat, j ≤ k ∧ gh = k - j ∧ i = .int .i64 j ∧ Hid (∃ T, RS w T R (List.replicate (k - j) [] ++ [q]) 0 [] wr))
      case atStart => exact ⟨0, by omega, by omega, rfl, Lib.hid ⟨_, H1.out⟩⟩
      case round =>
        obtain ⟨j, hj, hg, rfl, hI⟩ := hrel
        by_cases hlt : j < k
        · obtain ⟨T, hrs⟩ := hI.out
          have e1 : List.replicate (k - j) ([] : List Nat) ++ [q] = [] :: (List.replicate (k - (j + 1)) [] ++ [q]) := by
            rw [show k - j = (k - (j + 1)) + 1 by omega, List.replicate_succ]; rfl
          rw [e1] at hrs
          have P := Lib.hid (pop_rs hrs)
          have l1 : (j : Int) < k := by omega
          clear hI hrs e1
          go_wp2_with fail
          refine P.out.mono ?_; rintro e w3 ⟨b3, v3, rfl, ⟨c3, cu3, rfl, _⟩, h3, _⟩
          have H3 := Lib.hid h3
          clear h3 P
          go_wp2_with fail
          go_roundg (k - (j + 1))
          case rel => exact ⟨j + 1, by omega, rfl, by simp, Lib.hid ⟨_, H3.out⟩⟩
          case measure => first | omega | (simp; omega)
        · obtain rfl : j = k := by omega
          obtain ⟨T, hrs⟩ := hI.out
          rw [Nat.sub_self] at hrs
          have P := Lib.hid (pop_rs (ps := []) hrs)
          clear hI hlt hj hg hrs H1
          go_wp2_with fail
          refine P.out.mono ?_; rintro e w3 ⟨b3, v3, rfl, hnb, h3, _⟩
          obtain ⟨c3, cu3, rfl, k2, k3, k4, k5⟩ := hnb
          have hcv := NB.conv (w := w3) (b := b3) (p := q) ⟨c3, cu3, rfl, k2, k3, k4, k5⟩
          obtain ⟨m, em⟩ : ∃ m, q.length = m := ⟨_, rfl⟩
          have hm2 : min l 32 = m := by rw [← em, ← EQ.out, List.length_take, HA.out.1, Nat.min_comm]
          have mi : min (l : Int) 32 = (m : Int) := by omega
          have mi' : (if (l : Int) ≤ 32 then (l : Int) else 32) = (m : Int) := by split <;> omega
          have hbt : bs.take m = q := by
            rw [← EQ.out, ← hm2]
            by_cases h : l ≤ 32
            · rw [Nat.min_eq_left h, List.take_of_length_le (by rw [HA.out.1]; omega), List.take_of_length_le (by rw [HA.out.1]; omega)]
            · rw [Nat.min_eq_right (by omega)]
          have hb3 : BR w3 A q := by rw [← hbt]; exact (HA.out.2.1.below h3.b).take' m
          have hcb : ∀ z, (convert 32 9 (.slice A m c)).run Try.prog (w3.drewN z) = .ok (.string (Str q)) (w3.drewN z) := fun z => conv_bytes _ _ _ _ _ em (hb3.same rfl)
          obtain ⟨S, eS⟩ : ∃ S, Str q = S := ⟨_, rfl⟩
          rw [em, eS] at hcv
          rw [em]
          rw [eS] at hcb
          have LN := Lib.hid (fun z => len_rs (w := w3.drewN z) (h3.below ⟨rfl, rfl, rfl, Nat.le_refl _, fun _ _ => rfl⟩))
          have HB := Lib.hid h3.b
          have q1 : (m : Int) ≤ c := by have := HA.out.2.2.2.2; omega
          have q2 : 0 ≤ (m : Int) := by omega
          have q3 : (m : Int) ≤ l := by omega
          clear k2 k3 k4 k5 hm2 hbt hb3 h3 P em eS EQ HA
          go_upto_region 20 with fail
          go_quiet ((go_at_call 13; exact Calls.quiet_of_same (LN.out _)))
          go_wp2_with fail
          go_ret
          exact ⟨by simp, HB.out.trans ((below_drewN0 w3 nq).mono HB.out.size)⟩
theorem cut_many (x : Int) (A : Option Addr) (l c : Nat) (w : World) (hm : 300 < l) :
    Calls Try.prog 6 #[.int .i64 x, .slice A l c] w fun e w' => e = .returned (.bool true) ∧ Below w.heap.size w w' := by
  have B := Lib.hid (fit_any w)
  have h300 : (300 : Int) < l := by omega
  obtain ⟨t, u, p, f1, f2, f2', f3, hp⟩ := mod8 x
  go_enter Try.func6, Try.ntmps6
  go_wp2_with fail
  refine B.out.mono ?_; rintro e w1 ⟨rfl, hb⟩
  have HB := Lib.hid hb
  clear B hb
  go_wp2_with fail
  go_ret
  exact ⟨rfl, HB.out⟩
end Go.Proofs.Ytoccgbfnbpkphaa
