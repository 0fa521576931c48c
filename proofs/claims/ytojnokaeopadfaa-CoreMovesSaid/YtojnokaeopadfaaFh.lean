import Derived.Test.YtojnokaeopadfaaFd
import Derived.Test.YtojnokaeopadfaaFg
namespace Go.Proofs.Ytojnokaeopadfaa
open Go.RowKit
set_option linter.unusedVariables false
set_option linter.unusedSimpArgs false

theorem grown_trans {a b c : World} (h : Grown a b) (k : Grown b c) : Grown a c :=
  ⟨World.keptBut_trans h.1 (World.keptBut_mono (fun _ f => f.elim) k.1), fun x => (k.2.1 x).trans (h.2.1 x), Nat.le_trans h.2.2 k.2.2⟩
theorem grown_drewN (w : World) (n : Nat) : Grown w (w.drewN n) := Grown.refl w
/-- A call that hands back v and makes at most new memory. -/
def Gives (v : Value) (w : World) (e : Ending) (w' : World) : Prop := e = .returned v ∧ Grown w w'
theorem gives_num {r : Nat} {w : World} {e : Ending} {w' : World} (h : Num r w e w') : Gives (.int .u64 r) w e w' := by
  obtain ⟨h1, n, rfl⟩ := h
  exact ⟨h1, grown_drewN w n⟩
theorem addG (a b : Nat) (w : World) : Calls Try.prog 54 #[.int .u64 a, .int .u64 b] w (Gives (.int .u64 (Flo.fAdd a b : Nat)) w) := (add_any a b w).mono fun _ _ h => gives_num h
theorem subG (a b : Nat) (w : World) : Calls Try.prog 55 #[.int .u64 a, .int .u64 b] w (Gives (.int .u64 (Flo.fSub a b : Nat)) w) := (sub_any a b w).mono fun _ _ h => gives_num h
theorem mulG (a b : Nat) (w : World) : Calls Try.prog 56 #[.int .u64 a, .int .u64 b] w (Gives (.int .u64 (Flo.fMul a b : Nat)) w) := (mul_any a b w).mono fun _ _ h => gives_num h
theorem divG (a b : Nat) (w : World) : Calls Try.prog 57 #[.int .u64 a, .int .u64 b] w (Gives (.int .u64 (Flo.fDiv a b : Nat)) w) := (div_any a b w).mono fun _ _ h => gives_num h
theorem sqrtG (a : Nat) (w : World) : Calls Try.prog 62 #[.int .u64 a] w (Gives (.int .u64 (Flo.fSqrt a : Nat)) w) := (sqrt_any a w).mono fun _ _ h => gives_num h
end Go.Proofs.Ytojnokaeopadfaa
namespace Go.Proofs.Ytojnokaeopadfaa
end Go.Proofs.Ytojnokaeopadfaa
