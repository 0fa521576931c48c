import Derived.Test.YtlkhbbdigljpjaaRb
import Derived.Test.YtlkhbbdigljpjaaNc
namespace Go.Proofs.Ytlkhbbdigljpjaa
open Go.RowKit
set_option linter.unusedVariables false
set_option linter.unusedSimpArgs false

theorem first_q (a1 : Option Addr) (c1 b o n cap : Nat) (q : Nat) (w : World) (h : w.cell? ⟨b, o, none⟩ = some (.int .u32 q)) :
    Calls Try.prog 51 #[.slice a1 0 c1, .slice (some ⟨b, o, none⟩) (n + 1) cap] w fun e w' => e = .returned (.int .u32 q) ∧ ∃ m, w' = w.drewN m := by
  go_enter Try.func51, Try.ntmps51
  go_wp2
  go_ret
  exact ⟨rfl, 0, rfl⟩
theorem first_p (a1 : Option Addr) (c1 b o n cap : Nat) (p : Nat) (w : World) (h : w.cell? ⟨b, o, none⟩ = some (.int .u32 p)) :
    Calls Try.prog 51 #[.slice (some ⟨b, o, none⟩) (n + 1) cap, .slice a1 0 c1] w fun e w' => e = .returned (.int .u32 p) ∧ ∃ m, w' = w.drewN m := by
  have h0 : (((n + 1 : Nat) : Int) == 0) = false := by rw [beq_eq_false_iff_ne]; omega
  go_enter Try.func51, Try.ntmps51
  go_wp2
  go_ret
  exact ⟨rfl, 0, rfl⟩
theorem first_pq (b1 o1 n1 c1 b2 o2 n2 c2 : Nat) (p q m : Nat) (hm : min p q = m) (w : World) (h1 : w.cell? ⟨b1, o1, none⟩ = some (.int .u32 p)) (h2 : w.cell? ⟨b2, o2, none⟩ = some (.int .u32 q)) :
    Calls Try.prog 51 #[.slice (some ⟨b1, o1, none⟩) (n1 + 1) c1, .slice (some ⟨b2, o2, none⟩) (n2 + 1) c2] w fun e w' => e = .returned (.int .u32 m) ∧ ∃ m, w' = w.drewN m := by
  have k1 : (((n1 + 1 : Nat) : Int) == 0) = false := by rw [beq_eq_false_iff_ne]; omega
  have k2 : (((n2 + 1 : Nat) : Int) == 0) = false := by rw [beq_eq_false_iff_ne]; omega
  go_enter Try.func51, Try.ntmps51
  go_wp2
  go_quiet (fail)
  go_wp2_with fail
  · go_ret
    exact ⟨by rw [← hm, show min p q = q from by omega]; rfl, _, rfl⟩
  · go_ret
    exact ⟨by rw [← hm, show min p q = p from by omega]; rfl, _, rfl⟩
theorem isNaN_any (x : Nat) (w : World) : Calls Try.prog 52 #[.int .u32 x] w fun e w' => e = .returned (.bool false) ∧ w = w' := by
  go_enter Try.func52, Try.ntmps52
  go_wp2
  go_ret
  exact ⟨by simp, rfl⟩
/-- What a comparison of two categories says. -/
def cmp3 (x y : Nat) : Int := if x < y then -1 else if y < x then 1 else 0
theorem compare_any (x y : Nat) (w : World) : Calls Try.prog 49 #[.int .u32 x, .int .u32 y] w fun e w' => e = .returned (.int .i64 (cmp3 x y)) ∧ w = w' := by
  obtain ⟨r, er⟩ : ∃ r, cmp3 x y = r := ⟨_, rfl⟩
  rw [er]
  have ER := Lib.hid er
  have C1 := Lib.hid (fun (x : Nat) => isNaN_any x w)
  clear er
  rcases Nat.lt_trichotomy x y with h | h | h
  · have h1 : (x : Int) < y := by omega
    go_enter Try.func49, Try.ntmps49
    go_wp2_with fail
    refine (C1.out _).mono ?_
    rintro e w1 ⟨rfl, rfl⟩
    go_wp2_with fail
    refine (C1.out _).mono ?_
    rintro e w1 ⟨rfl, rfl⟩
    go_wp2_with fail
    go_ret
    exact ⟨by rw [← ER.out, cmp3, if_pos h]; rfl, rfl⟩
  · have h1 : ¬ (x : Int) < y := by omega
    have h2 : ¬ (y : Int) < x := by omega
    go_enter Try.func49, Try.ntmps49
    go_wp2_with fail
    refine (C1.out _).mono ?_
    rintro e w1 ⟨rfl, rfl⟩
    go_wp2_with fail
    refine (C1.out _).mono ?_
    rintro e w1 ⟨rfl, rfl⟩
    go_wp2_with fail
    go_ret
    exact ⟨by rw [← ER.out, cmp3, if_neg (by omega), if_neg (by omega)]; rfl, rfl⟩
  · have h1 : ¬ (x : Int) < y := by omega
    have h2 : (y : Int) < x := by omega
    go_enter Try.func49, Try.ntmps49
    go_wp2_with fail
    refine (C1.out _).mono ?_
    rintro e w1 ⟨rfl, rfl⟩
    go_wp2_with fail
    refine (C1.out _).mono ?_
    rintro e w1 ⟨rfl, rfl⟩
    go_wp2_with fail
    go_ret
    exact ⟨by rw [← ER.out, cmp3, if_neg (by omega), if_pos h]; rfl, rfl⟩
theorem cmpf_any (x : Nat) (l : Int) (y : Nat) (w : World) : Calls Try.prog 48 #[.agg #[.int .u32 x, .int .i64 l], .int .u32 y] w fun e w' => e = .returned (.int .i64 (cmp3 x y)) ∧ Below w.heap.size w w' := by
  have C1 := Lib.hid (fun (w : World) => compare_any x y w)
  go_enter Try.func48, Try.ntmps48
  go_wp2_with fail
  refine (C1.out _).mono ?_
  rintro e w1 ⟨rfl, rfl⟩
  go_wp2_with fail
  go_ret
  exact ⟨rfl, (Below.refl _ _).alloc (Nat.le_refl _) _⟩
end Go.Proofs.Ytlkhbbdigljpjaa
