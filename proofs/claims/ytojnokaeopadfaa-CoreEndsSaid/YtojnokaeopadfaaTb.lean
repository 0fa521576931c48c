/- CoreEnds, of what came in. -/
import Derived.Test.YtojnokaeopadfaaTa
import Derived.Test.YtojnokaeopadfaaLa
set_option linter.unusedVariables false
set_option linter.unusedSimpArgs false
namespace Go.Proofs.Ytojnokaeopadfaa
open Go.RowKit

theorem ends_many (op a b d m : Int) (A : Option Addr) (n cp pc : Nat) (w : World) (h16 : 16 < n) :
    Calls Try.prog 4 #[.agg #[.int .i64 op, .int .i64 a, .int .i64 b, .int .i64 d, .int .i32 m], .slice A n cp, .int .u64 (pc : Nat)] w fun e w' => e = .returned (.bool true) ∧ Nr [] w w' := by
  have F := Lib.hid (fun (W : World) => fit_any W)
  have HN := Lib.hid (fun o : Obj => (Nr.refl [] w).alloc o)
  have hgt : (n : Int) > 16 := by omega
  go_enter Try.func4, Try.ntmps4
  go_wp2_with fail
  refine (F.out _).mono ?_; rintro e w1 ⟨rfl, hf⟩
  have HE := Lib.hid ((HN.out _).next hf)
  clear hf F HN
  go_wp2_with fail
  go_ret
  exact ⟨rfl, HE.out⟩
theorem ends_law (op a b d m : Int) (v : Value) (pc : Nat) (w : World) (h : CameU w v) (hpc : pc < 18446744073709551616) :
    Calls Try.prog 4 #[.agg #[.int .i64 op, .int .i64 a, .int .i64 b, .int .i64 d, .int .i32 m], v, .int .u64 (pc : Nat)] w fun e w' => e = .returned (.bool true) ∧ Nr [] w w' := by
  obtain ⟨A, n, cp, rfl, h | ⟨us, h1, h2, h3, h4⟩⟩ := h
  · exact ends_many op a b d m A n cp pc w h
  · exact ends_all op a b d m A n cp us pc w h1 h2 h4 h3 hpc
end Go.Proofs.Ytojnokaeopadfaa
