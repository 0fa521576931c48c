/- Pools that are none: the law. -/
import Derived.Test.YtnhfjipakhgjcaaGd
namespace Go.Proofs.Ytnhfjipakhgjcaa
open Go.RowKit
set_option linter.unusedVariables false
set_option linter.unusedSimpArgs false
/-- A pool, or none. -/
theorem new_may (k : Int) (w : World) : Calls Try.prog 9 #[.int .i64 k] w fun e w' => ∃ p : Option Addr, e = .returned (.pointer p) ∧ (p.isSome = decide (1 ≤ k ∧ k ≤ 4096)) ∧ Below w.heap.size w w' := by
  by_cases h : 1 ≤ k ∧ k ≤ 4096
  · obtain ⟨n, rfl⟩ := Int.eq_ofNat_of_zero_le (show 0 ≤ k by omega)
    refine (pnew_any n w (by omega) (by omega)).mono ?_
    rintro e w' ⟨R, S, he, _, hw, _⟩
    exact ⟨_, he, by simp [h], hw⟩
  · refine (pnew_none k w h).mono ?_
    rintro e w' ⟨he, hw⟩
    exact ⟨_, he, by simp [h], hw⟩
set_option maxHeartbeats 4000000 in
theorem none_all (n : Int) (o : Nat) (w : World) (n1 : -9223372036854775808 ≤ n) (n2 : n ≤ 9223372036854775807) (ho : o < 18446744073709551616) : Calls Try.prog 5 #[.int .i64 n, .int .u64 o] w fun e w' => e = .returned (.bool true) ∧ Below w.heap.size w w' := by
  have B := Lib.hid fit_any
  obtain ⟨k1, hk1⟩ : ∃ k1 : Int, n.tmod 5000 = k1 := ⟨_, rfl⟩
  obtain ⟨k2, hk2⟩ : ∃ k2 : Int, n.tmod 10 = k2 := ⟨_, rfl⟩
  have C := Lib.hid new_may
  have FR := Lib.hid (fun w => pfree_nil 1 w)
  have LE := Lib.hid plen_nil
  have LF := Lib.hid pleft_nil
  have AL := Lib.hid (fun w => palloc_nil o w)
  have OW := Lib.hid (fun w => powner_nil 1 w)
  have CO := Lib.hid (fun w => pcount_nil o w)
  have RE := Lib.hid (fun w => pread_nil 1 0 1 w)
  go_enter Try.func5, Try.ntmps5
  go_wp2_with fail
  refine (B.out _).mono ?_; rintro e w1 ⟨rfl, g1⟩
  go_wp2_with fail
  obtain ⟨WL, hWL⟩ : ∃ WL, WL = w1.alloc (Obj.cells #[.int .i64 n, .int .i64 k1, .int .i64 k2] 3) := ⟨_, rfl⟩
  have GL := Lib.hid (show Below w.heap.size w WL by rw [hWL]; exact g1.alloc g1.size _)
  have cl : ∀ k : Nat, k < 3 → ∃ v, ∀ wr, Below WL.heap.size WL wr → wr.cell? ⟨w1.heap.size, k, none⟩ = some (.int .i64 v) := by
    intro k hk
    have h : ∀ v, WL.cell? ⟨w1.heap.size, k, none⟩ = some v → ∀ wr, Below WL.heap.size WL wr → wr.cell? ⟨w1.heap.size, k, none⟩ = some v := by
      intro v h wr g; rw [g.cell (p := ⟨w1.heap.size, k, none⟩) (by rw [hWL]; simp)]; exact h
    have h5 : k = 0 ∨ k = 1 ∨ k = 2 := by omega
    rcases h5 with rfl | rfl | rfl
    · exact ⟨n, h _ (by rw [hWL]; simp)⟩
    · exact ⟨k1, h _ (by rw [hWL]; simp)⟩
    · exact ⟨k2, h _ (by rw [hWL]; simp)⟩
  have CL := Lib.hid cl
  rw [← hWL]
  clear hWL cl n1 n2 ho hk1 hk2 g1
  go_loopg [18] 3 (fun g i wr => ∃ k : Nat, k ≤ 3 ∧ g = 3 - k ∧ i = .int .i64 k ∧ Below WL.heap.size WL wr)
  case atStart => exact ⟨0, by omega, by omega, rfl, Below.refl _ WL⟩
  case round =>
    obtain ⟨k, hk, hg, rfl, gk⟩ := hrel
    have K := Lib.hid (And.intro hk (And.intro hg gk))
    clear hk hg gk
    by_cases hlt : k < 3
    · obtain ⟨v, hv⟩ := CL.out k hlt
      have c := hv _ K.out.2.2
      clear hv
      have i1 : IntKind.i64.wrap ((k : Int) + 1) = ((k + 1 : Nat) : Int) := by simp [IntKind.wrap, IntKind.bits, IntKind.signed]; omega
      by_cases v1 : 1 ≤ v
      · by_cases v2 : v ≤ 4096
        · go_wp2_with fail
          refine (C.out _ _).mono ?_; rintro e w2 ⟨p, rfl, hp, k1⟩
          obtain ⟨q, rfl⟩ : ∃ q, p = some q := Option.isSome_iff_exists.1 (by rw [hp]; simp [v1, v2])
          go_wp2_with fail
          go_roundg (3 - (k + 1))
          case rel => exact ⟨k + 1, by omega, rfl, by first | rfl | go_num, K.out.2.2.trans (k1.mono K.out.2.2.size)⟩
          case measure => have := K.out.2.1; omega
        · have v3 : ¬ v ≤ 4096 := v2
          go_wp2_with fail
          refine (C.out _ _).mono ?_; rintro e w2 ⟨p, rfl, hp, k1⟩
          obtain rfl : p = none := Option.isNone_iff_eq_none.1 (by rw [← Option.not_isSome, hp]; simp; omega)
          go_wp2_with fail
          go_roundg (3 - (k + 1))
          case rel => exact ⟨k + 1, by omega, rfl, by first | rfl | go_num, K.out.2.2.trans (k1.mono K.out.2.2.size)⟩
          case measure => have := K.out.2.1; omega
      · have v4 : ¬ 1 ≤ v := v1
        go_wp2_with fail
        refine (C.out _ _).mono ?_; rintro e w2 ⟨p, rfl, hp, k1⟩
        obtain rfl : p = none := Option.isNone_iff_eq_none.1 (by rw [← Option.not_isSome, hp]; simp; omega)
        go_wp2_with fail
        go_roundg (3 - (k + 1))
        case rel => exact ⟨k + 1, by omega, rfl, by first | rfl | go_num, K.out.2.2.trans (k1.mono K.out.2.2.size)⟩
        case measure => have := K.out.2.1; omega
    · obtain rfl : k = 3 := by have := K.out.1; omega
      have BE := Lib.hid (GL.out.trans (K.out.2.2.mono GL.out.size))
      go_wp2_with fail
      refine (FR.out _).mono ?_; rintro e v1 ⟨rfl, b1⟩
      have BE := Lib.hid (BE.out.trans (b1.mono BE.out.size))
      clear b1
      go_wp2_with fail
      refine (LE.out _).mono ?_; rintro e v1 ⟨rfl, b1⟩
      have BE := Lib.hid (BE.out.trans (b1.mono BE.out.size))
      clear b1
      go_wp2_with fail
      refine (LF.out _).mono ?_; rintro e v1 ⟨rfl, b1⟩
      have BE := Lib.hid (BE.out.trans (b1.mono BE.out.size))
      clear b1
      go_wp2_with fail
      refine (AL.out _).mono ?_; rintro e v1 ⟨rfl, b1⟩
      have BE := Lib.hid (BE.out.trans (b1.mono BE.out.size))
      clear b1
      go_wp2_with fail
      refine (OW.out _).mono ?_; rintro e v1 ⟨rfl, b1⟩
      have BE := Lib.hid (BE.out.trans (b1.mono BE.out.size))
      clear b1
      go_wp2_with fail
      refine (CO.out _).mono ?_; rintro e v1 ⟨rfl, b1⟩
      have BE := Lib.hid (BE.out.trans (b1.mono BE.out.size))
      clear b1
      go_wp2_with fail
      refine (RE.out _).mono ?_; rintro e v1 ⟨⟨A, c, rfl⟩, b1⟩
      have BE := Lib.hid (BE.out.trans (b1.mono BE.out.size))
      clear b1
      go_wp2_with fail
      have BE := Lib.hid (BE.out.alloc BE.out.size (Obj.cells #[Value.int IntKind.u8 1] 5))
      refine (pwrite_nil 1 0 _ _ _ _).mono ?_; rintro e w5 ⟨rfl, b1⟩
      have BE := Lib.hid (BE.out.trans (b1.mono BE.out.size))
      clear b1
      go_wp2_with fail
      refine (new_st 3 w w5 [] (by omega) (by omega) BE.out (by simp)).mono ?_; rintro e w6 ⟨R, ds, rfl, h1, _⟩
      have A1 := Lib.hid (alloc_st 0 h1 (by omega) 0 0 [0, 0, 0] rfl rfl)
      clear h1
      go_wp2_with fail
      refine A1.out.mono ?_; rintro e w7 ⟨rfl, h1, _⟩
      have BE := Lib.hid h1.b
      clear h1 A1
      go_wp2_with fail
      go_ret
      exact ⟨rfl, BE.out⟩
end Go.Proofs.Ytnhfjipakhgjcaa
