/- The example: fit. -/
import Derived.Test.YtoccgbfnbpkphaaRf
set_option linter.unusedVariables false
set_option linter.unusedSimpArgs false
namespace Go.Proofs.Ytoccgbfnbpkphaa
open Go.RowKit Rn
set_option linter.unusedVariables false
set_option linter.unusedSimpArgs false
theorem br_lit1 (w : World) (x : Nat) : BR (w.alloc (Obj.cells #[.int .u8 (x : Int)] 5)) (some ⟨w.heap.size, 0, none⟩) [x] := br_made w [x]
set_option maxRecDepth 100000 in
set_option maxHeartbeats 4000000 in
theorem fit_any (w : World) : Calls Try.prog 7 #[] w fun e w' => e = .returned (.bool true) ∧ Below w.heap.size w w' := by
  have HN := Lib.hid (new_rs (W := w) (w := w) (T := []) (Below.refl _ _) (by simp))
  have zv := zero_ring
  obtain ⟨Z, eZ⟩ : ∃ Z, zr.toArray = Z := ⟨_, rfl⟩
  rw [eZ] at HN zv
  clear eZ
  obtain ⟨R, eR⟩ : ∃ R, w.heap.size = R := ⟨_, rfl⟩
  rw [eR] at HN
  go_enter Try.func7, Try.ntmps7
  go_wp2_with fail
  clear zv eR
  go_loopg [2, 3] 9 (fun gh c i wr => ∃ k : Nat, k ≤ 9 ∧ gh = 9 - k ∧ i = .int .i64 k ∧ (∃ m : Nat, m ≤ 8 ∧ c = .int .i64 m ∧ Hid (m = min k 8 ∧ RS w [] R (List.replicate m [1]) (k - 8) [] wr)))
  case atStart => exact ⟨0, by omega, by omega, rfl, 0, by omega, rfl, Lib.hid ⟨rfl, HN.out⟩⟩
  case round =>
    obtain ⟨k, hk, hg, rfl, m, hm8, rfl, hI⟩ := hrel
    by_cases hlt : k < 9
    · obtain ⟨hm, hrs⟩ := hI.out
      have h1 := hrs.below (below_alloc1 wr (Obj.cells #[.int .u8 ((1 : Nat) : Int)] 5))
      have hbr := br_lit1 wr 1
      by_cases h8 : k < 8
      · have P := Lib.hid (push_rs h1 (by simp; omega) _ 1 1 [1] rfl hbr (by simp) (by omega))
        have HM := Lib.hid hm
        clear hI hm hrs h1 hbr
        have i1 : IntKind.i64.wrap ((m : Int) + 1) = (m : Int) + 1 := by rw [IntKind.wrap_i64]; omega
        go_wp2_with fail
        refine P.out.mono ?_; rintro e w1 ⟨rfl, h1, _⟩
        have H1 := Lib.hid h1
        clear h1 P
        go_wp2_with fail
        go_roundg (9 - (k + 1))
        case rel => exact ⟨k + 1, by omega, rfl, by simp, m + 1, by have := HM.out; omega, by simp, Lib.hid ⟨by have := HM.out; omega, by
          have e : List.replicate m [1] ++ [List.take 32 [1]] = List.replicate (m + 1) [1] := by rw [List.replicate_succ']; rfl
          rw [← e, show k + 1 - 8 = k - 8 by omega]; exact H1.out⟩⟩
        case measure => first | omega | (simp; omega)
      · have P := Lib.hid (push_rs_full h1 (by simp; omega) (by omega) (some ⟨wr.heap.size, 0, none⟩) 1 1)
        have HM := Lib.hid hm
        clear hI hm hrs h1 hbr
        go_wp2_with fail
        refine P.out.mono ?_; rintro e w1 ⟨rfl, h1, _⟩
        have H1 := Lib.hid h1
        clear h1 P
        go_wp2_with fail
        go_roundg (9 - (k + 1))
        case rel => exact ⟨k + 1, by omega, rfl, by simp, m, by omega, rfl, Lib.hid ⟨by have := HM.out; omega, by rw [show k + 1 - 8 = k - 8 + 1 by omega]; exact H1.out⟩⟩
        case measure => first | omega | (simp; omega)
    · obtain rfl : k = 9 := by omega
      obtain ⟨hm, hrs⟩ := hI.out
      obtain rfl : m = 8 := by omega
      have L1 := Lib.hid (lost_rs hrs)
      have L2 := Lib.hid (len_rs hrs)
      have HB := Lib.hid hrs.b
      clear hI hm hrs hlt HN
      go_wp2_with fail
      refine L1.out.mono ?_; rintro e w1 ⟨rfl, rfl⟩
      go_wp2_with fail
      refine L2.out.mono ?_; rintro e w2 ⟨rfl, rfl⟩
      go_wp2_with fail
      go_ret
      exact ⟨rfl, HB.out⟩
end Go.Proofs.Ytoccgbfnbpkphaa
