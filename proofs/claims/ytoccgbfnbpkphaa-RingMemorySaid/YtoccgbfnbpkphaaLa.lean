/- RingCut, RingMemory: whatever came in. -/
import Derived.Test.YtoccgbfnbpkphaaRm
import Derived.Test.YtoccgbfnbpkphaaRp
import Derived.Test.YtoccgbfnbpkphaaTa
set_option linter.unusedVariables false
set_option linter.unusedSimpArgs false
namespace Go.Proofs.Ytoccgbfnbpkphaa
open Go.RowKit Rn
set_option linter.unusedVariables false
set_option linter.unusedSimpArgs false
theorem cut_law (x : Int) (v : Value) (w : World) (h : CameB w v) (o : -9223372036854775808 ≤ x ∧ x ≤ 9223372036854775807) : Calls Try.prog 6 #[.int .i64 x, v] w fun e w' => e = .returned (.bool true) ∧ Below w.heap.size w w' := by
  obtain ⟨A, n, c, bs, rfl, h1, h2, h3, h4, h5, h6⟩ := h
  by_cases hm : 300 < n
  · exact cut_many x A n c w hm
  · exact cut_all x A n c bs w o.1 o.2 h1 (by omega) h3 h5 h6
theorem mem_law (v : Value) (stop : Int) (w : World) (h : CameB w v) : Calls Try.prog 4 #[v, .int .i64 stop] w fun e w' => e = .returned (.bool true) ∧ Below w.heap.size w w' := by
  obtain ⟨A, n, c, bs, rfl, h1, h2, h3, h4, h5, h6⟩ := h
  by_cases hm : 100 < n
  · exact mem_many A n c stop w hm
  · exact mem_all A n c bs stop w h1 (by omega) h3 h5 h6
end Go.Proofs.Ytoccgbfnbpkphaa
