import Derived.Test.YtlohilpeidmemaaDoorAc
import Derived.Laws.BytesArg
import Derived.WideShapes
namespace Go.Proofs.YtlohilpeidmemaaDoor
open Go.RowKit
set_option linter.unusedVariables false
set_option linter.unusedSimpArgs false

def lits : List Value := [Value.string { data := #[104, 97, 108, 116] }, Value.string { data := #[108, 105] }, Value.string { data := #[104, 105] }, Value.string { data := #[97, 100, 100] }, Value.string { data := #[115, 117, 98] }, Value.string { data := #[109, 117, 108] }, Value.string { data := #[100, 105, 118] }, Value.string { data := #[114, 101, 109] }, Value.string { data := #[97, 110, 100] }, Value.string { data := #[111, 114] }, Value.string { data := #[120, 111, 114] }, Value.string { data := #[115, 104, 108] }, Value.string { data := #[115, 104, 114] }, Value.string { data := #[115, 97, 114] }, Value.string { data := #[115, 108, 116] }, Value.string { data := #[115, 108, 116, 117] }, Value.string { data := #[101, 113] }, Value.string { data := #[97, 100, 100, 105] }, Value.string { data := #[108, 100] }, Value.string { data := #[108, 119] }, Value.string { data := #[108, 98] }, Value.string { data := #[115, 116] }, Value.string { data := #[115, 119] }, Value.string { data := #[115, 98] }, Value.string { data := #[98, 101, 113] }, Value.string { data := #[98, 110, 101] }, Value.string { data := #[98, 108, 116] }, Value.string { data := #[98, 108, 116, 117] }, Value.string { data := #[106, 97, 108] }, Value.string { data := #[106, 114] }, Value.string { data := #[102, 97, 100, 100] }, Value.string { data := #[102, 115, 117, 98] }, Value.string { data := #[102, 109, 117, 108] }, Value.string { data := #[102, 100, 105, 118] }, Value.string { data := #[102, 109, 105, 110] }, Value.string { data := #[102, 109, 97, 120] }, Value.string { data := #[102, 108, 116] }, Value.string { data := #[102, 101, 113] }, Value.string { data := #[102, 115, 113, 114, 116] }, Value.string { data := #[102, 116, 111, 105] }, Value.string { data := #[105, 116, 111, 102] }, Value.string { data := #[102, 99, 108, 97, 115, 115] }, Value.string { data := #[116, 114, 97, 112] }]
theorem lits_at : (k : Nat) → (h : k < lits.length) → lits[k] = .string (S (Isa.nm ((k : Int) + 1)))
  | 0, _ => rfl
  | 1, _ => rfl
  | 2, _ => rfl
  | 3, _ => rfl
  | 4, _ => rfl
  | 5, _ => rfl
  | 6, _ => rfl
  | 7, _ => rfl
  | 8, _ => rfl
  | 9, _ => rfl
  | 10, _ => rfl
  | 11, _ => rfl
  | 12, _ => rfl
  | 13, _ => rfl
  | 14, _ => rfl
  | 15, _ => rfl
  | 16, _ => rfl
  | 17, _ => rfl
  | 18, _ => rfl
  | 19, _ => rfl
  | 20, _ => rfl
  | 21, _ => rfl
  | 22, _ => rfl
  | 23, _ => rfl
  | 24, _ => rfl
  | 25, _ => rfl
  | 26, _ => rfl
  | 27, _ => rfl
  | 28, _ => rfl
  | 29, _ => rfl
  | 30, _ => rfl
  | 31, _ => rfl
  | 32, _ => rfl
  | 33, _ => rfl
  | 34, _ => rfl
  | 35, _ => rfl
  | 36, _ => rfl
  | 37, _ => rfl
  | 38, _ => rfl
  | 39, _ => rfl
  | 40, _ => rfl
  | 41, _ => rfl
  | 42, _ => rfl
  | k + 43, h => absurd h (by show ¬ k + 43 < 43; omega)
set_option maxHeartbeats 1000000 in
theorem name_in (k : Nat) (hk : k < 43) (w : World) : Calls Tryd.prog 15 #[.int .i64 ((k : Int) + 1)] w fun e w' => e = .returned (.string (S (Isa.nm ((k : Int) + 1)))) ∧ Below w.heap.size w w' := by
  have HB := Lib.hid (Below.alloc (Below.refl w.heap.size w) (Nat.le_refl _) (Obj.cells lits.toArray 9))
  have HL := Lib.hid (congrArg Ending.returned (lits_at k hk))
  go_enter Tryd.func15, Tryd.ntmps15
  go_wp2_with fail
  go_ret
  exact ⟨HL.out, HB.out⟩
set_option maxHeartbeats 1000000 in
theorem name_out (o : Int) (ho : ¬ (1 ≤ o ∧ o ≤ 43)) (w : World) : Calls Tryd.prog 15 #[.int .i64 o] w fun e w' => e = .returned (.string (S (Isa.nm o))) ∧ Below w.heap.size w w' := by
  have HB := Lib.hid (Below.alloc (Below.refl w.heap.size w) (Nat.le_refl _) (Obj.cells lits.toArray 9))
  rw [Isa.nm_none ho]
  by_cases h1 : o < 1
  · clear ho
    go_enter Tryd.func15, Tryd.ntmps15
    go_wp2_with fail
    go_ret
    exact ⟨rfl, HB.out⟩
  · have h2 : 43 < o := by omega
    clear ho
    go_enter Tryd.func15, Tryd.ntmps15
    go_wp2_with fail
    go_ret
    exact ⟨rfl, HB.out⟩
theorem name_any (o : Int) (w : World) : Calls Tryd.prog 15 #[.int .i64 o] w fun e w' => e = .returned (.string (S (Isa.nm o))) ∧ Below w.heap.size w w' := by
  by_cases ho : 1 ≤ o ∧ o ≤ 43
  · obtain ⟨k, rfl⟩ : ∃ k : Nat, o = (k : Int) + 1 := ⟨(o - 1).toNat, by omega⟩
    exact name_in k (by omega) w
  · exact name_out o ho w
end Go.Proofs.YtlohilpeidmemaaDoor
