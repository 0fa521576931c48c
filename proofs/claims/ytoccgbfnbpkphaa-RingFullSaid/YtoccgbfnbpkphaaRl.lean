/- RingFull. -/
import Derived.Test.YtoccgbfnbpkphaaRk
set_option linter.unusedVariables false
set_option linter.unusedSimpArgs false
namespace Rn
def out (x k : Nat) : List Nat := (List.range k).map fun i => (x + i) % 18446744073709551616
theorem out_len (x k : Nat) : (out x k).length = k := by simp [out]
theorem out_succ (x k : Nat) : out x (k + 1) = out x k ++ [(x + k) % 18446744073709551616] := by unfold out; rw [List.range_succ]; simp
theorem out_at (x : Nat) {i k : Nat} (h : i < k) : (out x k)[i]? = some ((x + i) % 18446744073709551616) := by
  unfold out; rw [List.getElem?_map, List.getElem?_range h]; rfl
end Rn
namespace Go.Proofs.Ytoccgbfnbpkphaa
open Go.RowKit Rn
set_option linter.unusedVariables false
set_option linter.unusedSimpArgs false
theorem u64_add (x k : Nat) : IntKind.u64.wrap ((x : Int) + (k : Int)) = (((x + k) % 18446744073709551616 : Nat) : Int) := by
  rw [IntKind.wrap_u64]; omega
set_option maxRecDepth 100000 in
set_option maxHeartbeats 4000000 in
theorem full_all (x : Nat) (hx : x < 18446744073709551616) (w : World) : Calls Try.prog 5 #[.int .u64 (x : Int)] w fun e w' => e = .returned (.bool true) ∧ Below w.heap.size w w' := by
  have B := Lib.hid (fit_any w)
  have HX := Lib.hid hx
  have zv := zero_ring
  obtain ⟨Z, eZ⟩ : ∃ Z, zr.toArray = Z := ⟨_, rfl⟩
  rw [eZ] at zv
  have EZ := Lib.hid eZ
  clear eZ hx
  go_enter Try.func5, Try.ntmps5
  go_wp2_with fail
  refine B.out.mono ?_; rintro e w1 ⟨rfl, hb⟩
  have HN := Lib.hid (new_rs (T := []) hb (by simp))
  rw [EZ.out] at HN
  clear B hb
  go_wp2_with fail
  obtain ⟨R, eR⟩ : ∃ R, w1.heap.size = R := ⟨_, rfl⟩
  rw [eR] at HN ⊢
  clear zv eR EZ
  go_loopg [8] 1024 (fun gh i wr => ∃ k : Nat, k ≤ 1024 ∧ gh = 1024 - k ∧ i = .int .u64 k ∧ Hid (RS w [] R [] 0 (out x k) wr))
  case atStart => exact ⟨0, by omega, by omega, rfl, HN⟩
  case round =>
    obtain ⟨k, hk, hg, rfl, hI⟩ := hrel
    by_cases hlt : k < 1024
    · obtain ⟨y, hy, hy2⟩ : ∃ y : Nat, IntKind.u64.wrap ((x : Int) + (k : Int)) = (y : Int) ∧ y = (x + k) % 18446744073709551616 := ⟨_, u64_add x k, rfl⟩
      have P := Lib.hid (put_rs hI.out (by rw [out_len]; omega) y)
      have HY := Lib.hid hy2
      have l1 : (k : Int) < 1024 := by omega
      have i1 : IntKind.u64.wrap ((k : Int) + 1) = (k : Int) + 1 := by rw [IntKind.wrap_u64]; omega
      clear hI hy2
      go_wp2_with fail
      refine P.out.mono ?_; rintro e w2 ⟨rfl, h1, _⟩
      have H1 := Lib.hid h1
      clear h1 P
      go_wp2_with fail
      go_roundg (1024 - (k + 1))
      case rel => exact ⟨k + 1, by omega, rfl, by simp, Lib.hid (by rw [out_succ, ← HY.out]; exact H1.out)⟩
      case measure => first | omega | (simp; omega)
    · obtain rfl : k = 1024 := by omega
      have O := Lib.hid (out_rs hI.out)
      clear hI hlt hk hg
      go_wp2_with fail
      refine O.out.mono ?_; rintro e w2 ⟨v', rfl, hb2, hu, h2, _⟩
      rcases hu with ⟨h0, _⟩ | ⟨b, c, cur, rfl, _, hbo, hcur, hlc, hcm, htk⟩
      · have := out_len x 1024; rw [h0] at this; simp at this
      rw [out_len] at htk hlc ⊢
      have c0 : w2.cell? ⟨b, 0, none⟩ = some (.int .u64 (x : Int)) := by
        rw [cell_of_row _ _ _ _ 33 (0, 0) hcur]
        refine take_at htk ?_
        have h := out_at x (i := 0) (k := 1024) (by omega)
        rw [Nat.add_zero, Nat.mod_eq_of_lt HX.out] at h
        exact U_at h
      obtain ⟨y, hy, hy2⟩ : ∃ y : Nat, IntKind.u64.wrap ((x : Int) + 1024) = (y : Int) ∧ y = (x + 1024) % 18446744073709551616 := ⟨_, u64_add x 1024, rfl⟩
      obtain ⟨z, hz, hz2⟩ : ∃ z : Nat, IntKind.u64.wrap ((y : Int) - 1) = (z : Int) ∧ z = (x + 1023) % 18446744073709551616 := ⟨_, by rw [IntKind.wrap_u64, hy2]; omega, rfl⟩
      have c1 : w2.cell? ⟨b, 1023, none⟩ = some (.int .u64 (z : Int)) := by
        rw [cell_of_row _ _ _ _ 33 (0, 0) hcur]
        refine take_at htk ?_
        rw [hz2]
        exact U_at (out_at x (i := 1023) (k := 1024) (by omega))
      have P := Lib.hid (put_rs_full h2 (out_len x 1024) x)
      have HB := Lib.hid h2.b
      clear O hb2 hbo hcur htk hy2 hz2 h2
      go_wp2_with fail
      refine P.out.mono ?_; rintro e w3 ⟨rfl, rfl⟩
      go_wp2_with fail
      go_ret
      exact ⟨rfl, HB.out⟩
end Go.Proofs.Ytoccgbfnbpkphaa
