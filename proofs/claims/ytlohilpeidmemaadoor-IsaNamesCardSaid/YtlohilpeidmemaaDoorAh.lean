import Derived.Test.YtlohilpeidmemaaDoorAf
namespace Go.Proofs.YtlohilpeidmemaaDoor
open Go.RowKit
set_option linter.unusedVariables false
set_option linter.unusedSimpArgs false

theorem S_toList (l : List UInt8) : (S l).toList = l := by
  rw [ByteArray.toList_eq]
  exact S_data l
set_option maxHeartbeats 1000000 in
theorem operation_any (l : List UInt8) (w : World) (hL : Laid w) : Calls Tryd.prog 21 #[.string (S l)] w fun e w' => ∃ r, e = .returned (.int .i64 r) ∧ Isa.OpIs l r ∧ w = w' := by
  have HL := Lib.hid hL
  clear hL
  go_enter Tryd.func21, Tryd.ntmps21
  go_wp2_with fail
  go_loop [3] (fun i => ∃ k : Nat, 1 ≤ k ∧ k ≤ 44 ∧ i = .int .i64 k ∧ Hid (∀ j : Int, 1 ≤ j → j < k → Isa.nm j ≠ l)) (fun i => 44 - (intOf i).toNat)
  case atStart => exact ⟨1, Nat.le_refl _, by decide, rfl, Lib.hid fun j h1 h2 => by omega⟩
  case round =>
    obtain ⟨k, h1, hk, rfl, hI⟩ := hrel
    by_cases hlt : k < 44
    · have kn := HL.out.nm (o := (k : Int)) (by omega)
      rw [Int.toNat_natCast] at kn
      have hk4 : (k : Int) < 44 := by omega
      by_cases he : Isa.nm (k : Int) = l
      · have hR := Lib.hid (show Isa.OpIs l k from .inl ⟨by omega, by omega, he⟩)
        rw [he] at kn
        clear hI he hk
        go_wp2_with fail
        go_ret
        exact ⟨_, rfl, hR.out, rfl⟩
      · have hne : ¬ (S (Isa.nm (k : Int))).toList = (S l).toList := by rw [S_toList, S_toList]; exact he
        have hne2 : ((S (Isa.nm (k : Int))).toList == (S l).toList) = false := by rw [beq_eq_false_iff_ne]; exact hne
        have hR := Lib.hid (show ∀ j : Int, 1 ≤ j → j < ((k + 1 : Nat) : Int) → Isa.nm j ≠ l from fun j a b => by
          by_cases e : j = k
          · rw [e]; exact he
          · exact hI.out j a (by omega))
        clear hI he
        go_wp2_with fail
        exact ⟨⟨k + 1, by omega, by omega, by go_num, hR⟩, by simp [intOf]; omega⟩
    · obtain rfl : k = 44 := by omega
      have hR := Lib.hid (show Isa.OpIs l 0 from .inr ⟨rfl, fun j a b => hI.out j a (by omega)⟩)
      clear hI
      go_wp2_with fail
      go_ret
      exact ⟨_, rfl, hR.out, rfl⟩
end Go.Proofs.YtlohilpeidmemaaDoor
