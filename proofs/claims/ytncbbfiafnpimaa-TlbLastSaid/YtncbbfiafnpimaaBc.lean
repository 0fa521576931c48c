/- Find, Len, Flush. -/
import Derived.Test.YtncbbfiafnpimaaBb
set_option linter.unusedVariables false
set_option linter.unusedSimpArgs false
namespace Go.Proofs.Ytncbbfiafnpimaa
open Go.RowKit Tl
set_option linter.unusedVariables false
set_option linter.unusedSimpArgs false
variable {w : World} {R : Nat} {g : Nat → En} {n : Nat}
set_option maxHeartbeats 1000000 in
theorem find_any (h : Tb w R g n) (p : Int) (b : Bool) (x : Int) (hx : seek g p b = x) : Calls Try.prog 8 #[.pointer (some ⟨R, 0, none⟩), .int .i64 p, .bool b] w fun e w' => e = .returned (.int .i64 x) ∧ Below w.heap.size w w' := by
  have A := Lib.hid (at_any h p)
  have H := Lib.hid h
  clear h
  rcases ix_cases g p with ⟨e, _⟩ | ⟨k, hk, e, hh, _⟩
  · obtain rfl : x = 0 := by rw [← hx, seek, e]; rfl
    rw [e] at A
    clear hx e
    go_enter Try.func8, Try.ntmps8
    go_wp2_with fail
    refine A.out.mono ?_; rintro e w1 ⟨rfl, hb⟩
    have HB := Lib.hid hb
    clear A hb
    go_wp2_with fail
    go_ret
    exact ⟨rfl, HB.out⟩
  · have hl : (if b && !(g k).b then 0 else (g k).f) = x := by rw [← hx, seek, e, Int.toNat_natCast, if_neg (show ¬ ((k : Int) < 0) by omega)]
    rw [e] at A
    obtain ⟨hh, _⟩ := hit_iff.1 hh
    clear hx e
    go_enter Try.func8, Try.ntmps8
    go_wp2_with fail
    refine A.out.mono ?_; rintro e w1 ⟨rfl, hb⟩
    have HB := Lib.hid hb
    have h1 := H.out.below hb
    obtain ⟨_, c1, c2⟩ := tc_at g n hk
    rw [← h1.cell] at c1 c2
    have HH := Lib.hid hh
    clear A hb H h1 hh
    cases b
    · simp at hl
      subst hl
      go_wp2_with fail
      go_ret
      exact ⟨rfl, HB.out⟩
    · cases hb : (g k).b
      · rw [hb] at hl c2
        simp at hl
        subst hl
        go_wp2_with fail
        go_ret
        exact ⟨rfl, HB.out⟩
      · rw [hb] at hl c2
        simp at hl
        subst hl
        go_wp2_with fail
        go_ret
        exact ⟨rfl, HB.out⟩
theorem find_none (w : World) (p : Int) (b : Bool) : Calls Try.prog 8 #[.pointer none, .int .i64 p, .bool b] w fun e w' => e = .returned (.int .i64 0) ∧ w' = w := by
  have A := Lib.hid (at_none w p)
  go_enter Try.func8, Try.ntmps8
  go_wp2_with fail
  refine A.out.mono ?_; rintro e w1 ⟨rfl, rfl⟩
  clear A
  go_wp2_with fail
  go_ret
  exact ⟨rfl, rfl⟩
theorem len_none (w : World) : Calls Try.prog 10 #[.pointer none] w fun e w' => e = .returned (.int .i64 0) ∧ w' = w := by
  go_enter Try.func10, Try.ntmps10
  go_wp2_with fail
  go_ret
  exact ⟨rfl, rfl⟩
theorem flush_none (w : World) : Calls Try.prog 9 #[.pointer none] w fun e w' => e = .returned (.tuple #[]) ∧ w' = w := by
  go_enter Try.func9, Try.ntmps9
  go_wp2_with fail
  exact bodyPost_end (results_none rfl _ _ _) rfl ⟨rfl, rfl⟩
set_option maxHeartbeats 1000000 in
theorem len_any (h : Tb w R g n) (x : Nat) (hx : cnt g 4 = x) : Calls Try.prog 10 #[.pointer (some ⟨R, 0, none⟩)] w fun e w' => e = .returned (.int .i64 (x : Int)) ∧ Below w.heap.size w w' := by
  have HR := Lib.hid h.places
  have HU := Lib.hid Try.underlying26
  have HZ := Lib.hid (show (Try.prog.info? 26).map (·.size) = some (pc g).length from size26)
  have HB := Lib.hid (Below.refl w.heap.size w)
  obtain ⟨PA, ePA⟩ : ∃ PA, (pc g).toArray = PA := ⟨_, rfl⟩
  clear h
  go_enter Try.func10, Try.ntmps10
  go_wp2_with (with_reducible refine wpList_load_mid rfl 26 (.tmp 10) rfl R 0 rfl (pc g) _ HR.out HU.out rfl HZ.out ?_)
  go_wp2_with fail
  have EPA := Lib.hid ePA
  clear ePA HR
  go_loopg [3, 12] 4 (fun gh c i wr => ∃ k : Nat, k ≤ 4 ∧ gh = 4 - k ∧ i = .int .i64 k ∧ (∃ m : Nat, m ≤ k ∧ m = cnt g k ∧ c = .int .i64 m) ∧ Hid (Below w.heap.size w wr))
  case atStart => exact ⟨0, by omega, by omega, rfl, ⟨0, by omega, rfl, rfl⟩, HB⟩
  case round =>
    obtain ⟨k, hk, hg, rfl, ⟨m, hm4, hm, rfl⟩, hI⟩ := hrel
    by_cases hlt : k < 4
    · have RP := run_place g wr hlt
      rw [EPA.out] at RP
      have hc : cnt g (k + 1) = m + if (g k).f = 0 then 0 else 1 := by rw [hm]; rfl
      have HK := Lib.hid hm
      clear hm
      go_wp2_with fail
      · rename_i h0
        rw [if_neg (by simpa using h0)] at hc
        go_roundg (4 - (k + 1))
        case rel => exact ⟨k + 1, by omega, rfl, by simp, ⟨m + 1, by omega, hc.symm, by simp⟩, Lib.hid (hI.out.trans ((below_alloc1 wr _).mono hI.out.size))⟩
        case measure => simp; omega
      · rename_i h0
        rw [if_pos (by simpa using h0)] at hc
        go_roundg (4 - (k + 1))
        case rel => exact ⟨k + 1, by omega, rfl, by simp, ⟨m, by omega, hc.symm, rfl⟩, Lib.hid (hI.out.trans ((below_alloc1 wr _).mono hI.out.size))⟩
        case measure => simp; omega
    · obtain rfl : k = 4 := by omega
      obtain rfl : m = x := hm.trans hx
      clear hlt hm hx
      go_wp2_with fail
      go_ret
      exact ⟨rfl, hI.out⟩
set_option maxHeartbeats 1000000 in
theorem flush_any (h : Tb w R g n) : Calls Try.prog 9 #[.pointer (some ⟨R, 0, Option.none⟩)] w fun e w' => e = .returned (.tuple #[]) ∧ Turn [R] w w' ∧ Tb w' R (fun _ => bare0) 0 := by
  have HE := Lib.hid (show Turn [R] w (w.setCells R 0 (tc (fun _ => bare0) 0)) ∧ Tb (w.setCells R 0 (tc (fun _ => bare0) 0)) R (fun _ => bare0) 0 from ⟨setCells_turn _ _ _ _, h.flush⟩)
  have HT := Lib.hid (show w.there R 0 (tc (fun _ => bare0) 0).toArray.size from h.there 0 13 (by omega))
  have HZ := Lib.hid (show (Try.prog.info? 28).map (·.size) = some (tc (fun _ => bare0) 0).toArray.size from size28)
  have H1 := Lib.hid (show (tc (fun _ => bare0) 0).toArray.all (·.oneCell') = true from by kernel_rfl)
  clear h
  go_enter Try.func9, Try.ntmps9
  go_wp2_with (with_reducible refine wpList_store_mid rfl 28 (.tmp 6) (.tmp 5) rfl R 0 (tc (fun _ => bare0) 0).toArray rfl rfl HT.out HZ.out H1.out ?_)
  go_wp2_with fail
  exact bodyPost_end (results_none rfl _ _ _) rfl ⟨rfl, HE.out⟩
end Go.Proofs.Ytncbbfiafnpimaa
