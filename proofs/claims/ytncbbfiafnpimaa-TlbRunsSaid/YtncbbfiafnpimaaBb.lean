/- A page's place: at. -/
import Derived.Test.YtncbbfiafnpimaaBa
set_option linter.unusedVariables false
set_option linter.unusedSimpArgs false
namespace Go.Proofs.Ytncbbfiafnpimaa
open Go.RowKit Tl
set_option linter.unusedVariables false
set_option linter.unusedSimpArgs false
variable {w : World} {R : Nat} {g : Nat → En} {n : Nat}
set_option maxHeartbeats 1000000 in
theorem at_any (h : Tb w R g n) (p : Int) : Calls Try.prog 11 #[.pointer (some ⟨R, 0, none⟩), .int .i64 p] w fun e w' => e = .returned (.int .i64 (ix g p)) ∧ Below w.heap.size w w' := by
  have HR := Lib.hid h.places
  have H := Lib.hid h
  have HU := Lib.hid Try.underlying26
  have HZ := Lib.hid (show (Try.prog.info? 26).map (·.size) = some (pc g).length from size26)
  have HB := Lib.hid (Below.refl w.heap.size w)
  obtain ⟨PA, ePA⟩ : ∃ PA, (pc g).toArray = PA := ⟨_, rfl⟩
  clear h
  go_enter Try.func11, Try.ntmps11
  go_wp2_with (with_reducible refine wpList_load_mid rfl 26 (.tmp 11) rfl R 0 rfl (pc g) _ HR.out HU.out rfl HZ.out ?_)
  go_wp2_with fail
  have EPA := Lib.hid ePA
  clear ePA HR
  go_loopg [13] 4 (fun gh i wr => ∃ k : Nat, k ≤ 4 ∧ gh = 4 - k ∧ i = .int .i64 k ∧ Hid (Below w.heap.size w wr ∧ ∀ i, i < k → hit g p i = false))
  case atStart => exact ⟨0, by omega, by omega, rfl, Lib.hid ⟨HB.out, fun i hi => by omega⟩⟩
  case round =>
    obtain ⟨k, hk, hg, rfl, hI⟩ := hrel
    by_cases hlt : k < 4
    · have RP := run_place g wr hlt
      rw [EPA.out] at RP
      have HN := Lib.hid (hit_not (g := g) (p := p) (i := k)).2
      clear hk
      go_wp2_with fail
      · rename_i h0
        go_roundg (4 - (k + 1))
        case rel => exact ⟨k + 1, by omega, rfl, by simp, Lib.hid ⟨hI.out.1.trans ((below_alloc1 wr _).mono hI.out.1.size), fun i hi => by
          rcases Nat.lt_succ_iff_lt_or_eq.1 hi with h | rfl
          · exact hI.out.2 i h
          · exact HN.out fun h => absurd h0 h⟩⟩
        case measure => simp; omega
      · rename_i h0 h1
        go_ret
        refine ⟨?_, hI.out.1.trans ((below_alloc1 wr _).mono hI.out.1.size)⟩
        rw [ix_eq hlt (hit_iff.2 (by simpa using h1)) hI.out.2]; rfl
      · rename_i h0 h1
        go_roundg (4 - (k + 1))
        case rel => exact ⟨k + 1, by omega, rfl, by simp, Lib.hid ⟨hI.out.1.trans ((below_alloc1 wr _).mono hI.out.1.size), fun i hi => by
          rcases Nat.lt_succ_iff_lt_or_eq.1 hi with h | rfl
          · exact hI.out.2 i h
          · exact HN.out fun h => by simpa [h] using h1⟩⟩
        case measure => simp; omega
    · obtain rfl : k = 4 := by omega
      clear hlt
      go_wp2_with fail
      go_ret
      exact ⟨by rw [ix_none hI.out.2]; rfl, hI.out.1⟩
theorem at_none (w : World) (p : Int) : Calls Try.prog 11 #[.pointer none, .int .i64 p] w fun e w' => e = .returned (.int .i64 (-1)) ∧ w' = w := by
  go_enter Try.func11, Try.ntmps11
  go_wp2_with fail
  go_ret
  exact ⟨rfl, rfl⟩
end Go.Proofs.Ytncbbfiafnpimaa
