import Derived.Test.YtlkhbbdigljpjaaUd
namespace Go.Proofs.Ytlkhbbdigljpjaa
open Go.RowKit
set_option linter.unusedVariables false
set_option linter.unusedSimpArgs false

theorem pair_ext {D E : Int} {ps qs : List (Nat × Int)} (o1 : Lab.Ok D ps) (o2 : Lab.Ok E qs) (hD : D = E) (h : ∀ c, Lab.at' D ps c = Lab.at' E qs c) : D = E ∧ ps = qs := by
  subst hD; exact ⟨rfl, Lab.ok_ext o1 o2 h⟩
section
variable {D E F : Int} {ps qs rs : List (Nat × Int)} (o1 : Lab.Ok D ps) (o2 : Lab.Ok E qs) (o3 : Lab.Ok F rs)
include o1 o2
theorem absorb_jm : max D (min D E) = D ∧ Lab.jn D ps (min D E) (Lab.mt D ps E qs) = ps :=
  pair_ext (Lab.jn_ok o1 (Lab.mt_ok o1 o2)) o1 (by omega) fun c => by rw [Lab.jn_at o1 (Lab.mt_ok o1 o2), Lab.mt_at o1 o2]; omega
theorem absorb_mj : min D (max D E) = D ∧ Lab.mt D ps (max D E) (Lab.jn D ps E qs) = ps :=
  pair_ext (Lab.mt_ok o1 (Lab.jn_ok o1 o2)) o1 (by omega) fun c => by rw [Lab.mt_at o1 (Lab.jn_ok o1 o2), Lab.jn_at o1 o2]; omega
theorem comm_j : max D E = max E D ∧ Lab.jn D ps E qs = Lab.jn E qs D ps :=
  pair_ext (Lab.jn_ok o1 o2) (Lab.jn_ok o2 o1) (by omega) fun c => by rw [Lab.jn_at o1 o2, Lab.jn_at o2 o1]; omega
theorem comm_m : min D E = min E D ∧ Lab.mt D ps E qs = Lab.mt E qs D ps :=
  pair_ext (Lab.mt_ok o1 o2) (Lab.mt_ok o2 o1) (by omega) fun c => by rw [Lab.mt_at o1 o2, Lab.mt_at o2 o1]; omega
include o3
theorem assoc_j : max D (max E F) = max (max D E) F ∧ Lab.jn D ps (max E F) (Lab.jn E qs F rs) = Lab.jn (max D E) (Lab.jn D ps E qs) F rs :=
  pair_ext (Lab.jn_ok o1 (Lab.jn_ok o2 o3)) (Lab.jn_ok (Lab.jn_ok o1 o2) o3) (by omega) fun c => by rw [Lab.jn_at o1 (Lab.jn_ok o2 o3), Lab.jn_at o2 o3, Lab.jn_at (Lab.jn_ok o1 o2) o3, Lab.jn_at o1 o2]; omega
theorem assoc_m : min D (min E F) = min (min D E) F ∧ Lab.mt D ps (min E F) (Lab.mt E qs F rs) = Lab.mt (min D E) (Lab.mt D ps E qs) F rs :=
  pair_ext (Lab.mt_ok o1 (Lab.mt_ok o2 o3)) (Lab.mt_ok (Lab.mt_ok o1 o2) o3) (by omega) fun c => by rw [Lab.mt_at o1 (Lab.mt_ok o2 o3), Lab.mt_at o2 o3, Lab.mt_at (Lab.mt_ok o1 o2) o3, Lab.mt_at o1 o2]; omega
end
end Go.Proofs.Ytlkhbbdigljpjaa
