import Derived.Test.YtknclmofpegilaaFd
import Derived.Test.YtknclmofpegilaaFg
namespace Go.Proofs.Ytknclmofpegilaa
open Go.RowKit
set_option linter.unusedVariables false
set_option linter.unusedSimpArgs false

theorem grown_trans {a b c : World} (h : Grown a b) (k : Grown b c) : Grown a c :=
  ⟨World.keptBut_trans h.1 (World.keptBut_mono (fun _ f => f.elim) k.1), fun x => (k.2.1 x).trans (h.2.1 x), Nat.le_trans h.2.2 k.2.2⟩
theorem grown_drewN (w : World) (n : Nat) : Grown w (w.drewN n) := Grown.refl w

/-- A call that hands back v and makes at most new memory. -/
def Gives (v : Value) (w : World) (e : Ending) (w' : World) : Prop := e = .returned v ∧ Grown w w'
theorem gives_num {r : Nat} {w : World} {e : Ending} {w' : World} (h : Num r w e w') : Gives (.int .u64 r) w e w' := by
  obtain ⟨h1, n, rfl⟩ := h
  exact ⟨h1, grown_drewN w n⟩
theorem addG (a b : Nat) (w : World) : Calls Try.prog 12 #[.int .u64 a, .int .u64 b] w (Gives (.int .u64 (Flo.fAdd a b : Nat)) w) := (add_any a b w).mono fun _ _ h => gives_num h
theorem subG (a b : Nat) (w : World) : Calls Try.prog 14 #[.int .u64 a, .int .u64 b] w (Gives (.int .u64 (Flo.fSub a b : Nat)) w) := (sub_any a b w).mono fun _ _ h => gives_num h
theorem mulG (a b : Nat) (w : World) : Calls Try.prog 15 #[.int .u64 a, .int .u64 b] w (Gives (.int .u64 (Flo.fMul a b : Nat)) w) := (mul_any a b w).mono fun _ _ h => gives_num h
theorem divG (a b : Nat) (w : World) : Calls Try.prog 17 #[.int .u64 a, .int .u64 b] w (Gives (.int .u64 (Flo.fDiv a b : Nat)) w) := (div_any a b w).mono fun _ _ h => gives_num h
theorem sqrtG (a : Nat) (w : World) : Calls Try.prog 19 #[.int .u64 a] w (Gives (.int .u64 (Flo.fSqrt a : Nat)) w) := (sqrt_any a w).mono fun _ _ h => gives_num h

theorem none_is (a : Nat) (t : Bool) (w : World) (h : a < 18446744073709551616) (ht : Flo.nanB a = t) :
    Calls Try.prog 23 #[.int .u64 a] w fun e w' => e = .returned (.bool t) ∧ w = w' := by
  have hb := bx a h
  have hf : IntKind.u64.wrap ((a : Int) * 4096) = ((a % 4503599627370496 * 4096 : Nat) : Int) := by
    rw [IntKind.wrap_u64]; omega
  obtain ⟨X, hX⟩ : ∃ X, a / 4503599627370496 % 2048 = X := ⟨_, rfl⟩
  obtain ⟨F, hF⟩ : ∃ F, a % 4503599627370496 * 4096 = F := ⟨_, rfl⟩
  rw [hX] at hb
  rw [hF] at hf
  by_cases h1 : X = 2047
  · subst h1
    have t1 : ((2047 : Nat) : Int) = 2047 := rfl
    by_cases h2 : F = 0
    · have e : t = false := by
        rw [← ht]; unfold Flo.nanB; apply decide_eq_false; omega
      subst e
      subst h2
      clear hX hF ht h
      go_enter Try.func23, Try.ntmps23
      go_wp2
      go_ret
      exact ⟨rfl, rfl⟩
    · have e : t = true := by
        rw [← ht]; unfold Flo.nanB; apply decide_eq_true; omega
      subst e
      have t2 : ((F : Int) != 0) = true := by simpa using h2
      clear hX hF ht h h2
      go_enter Try.func23, Try.ntmps23
      go_wp2
      go_ret
      exact ⟨rfl, rfl⟩
  · have e : t = false := by
      rw [← ht]; unfold Flo.nanB; apply decide_eq_false; omega
    subst e
    have t1 : ((X : Int) == 2047) = false := by simp; omega
    clear hX hF ht h h1
    go_enter Try.func23, Try.ntmps23
    go_wp2
    go_ret
    exact ⟨rfl, rfl⟩
end Go.Proofs.Ytknclmofpegilaa
namespace Go.Proofs.Ytknclmofpegilaa
theorem wf_u64 {a : Int} (h : (Lit.int .u64 a).wf = true) : 0 ≤ a ∧ a < 18446744073709551616 := by
  have h' : (0 : Int) ≤ a ∧ a ≤ 18446744073709551615 := by simpa [Lit.wf, IntKind.min, IntKind.max, IntKind.signed, IntKind.bits] using h
  omega
theorem wf_i64 {a : Int} (h : (Lit.int .i64 a).wf = true) : -9223372036854775808 ≤ a ∧ a ≤ 9223372036854775807 := by
  have h' : (-9223372036854775808 : Int) ≤ a ∧ a ≤ 9223372036854775807 := by simpa [Lit.wf, IntKind.min, IntKind.max, IntKind.signed, IntKind.bits] using h
  omega
end Go.Proofs.Ytknclmofpegilaa
