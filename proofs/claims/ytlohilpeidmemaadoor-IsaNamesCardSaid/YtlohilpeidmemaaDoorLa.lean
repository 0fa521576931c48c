import Derived.Test.YtlohilpeidmemaaDoorAf
namespace Go.Proofs.YtlohilpeidmemaaDoor
open Go.RowKit
set_option linter.unusedVariables false
set_option linter.unusedSimpArgs false

theorem tmod43 (a : Int) : -43 < a.tmod 43 ∧ a.tmod 43 < 43 := by
  by_cases h : 0 ≤ a
  · rw [Int.tmod_eq_emod_of_nonneg h]; omega
  · obtain ⟨n, rfl⟩ : ∃ n : Int, a = -n := ⟨-a, by omega⟩
    rw [Int.neg_tmod, Int.tmod_eq_emod_of_nonneg (by omega)]; omega
theorem steps43 (a : Int) : ∃ p q r A : Int, a.tmod 43 = p ∧ wrap64 (p + 43) = q ∧ q.tmod 43 = r ∧ wrap64 (r + 1) = A ∧ 1 ≤ A ∧ A ≤ 43 := by
  have h1 := tmod43 a
  have h2 : wrap64 (a.tmod 43 + 43) = a.tmod 43 + 43 := by unfold wrap64; omega
  have h3 : (a.tmod 43 + 43).tmod 43 = (a.tmod 43 + 43) % 43 := Int.tmod_eq_emod_of_nonneg (by omega)
  refine ⟨_, _, _, _, rfl, rfl, rfl, rfl, ?_⟩
  rw [h2, h3]
  unfold wrap64
  omega
theorem right_op {A : Int} (h : 1 ≤ A ∧ A ≤ 43) : Isa.Right A 0 0 0 := ⟨h.1, h.2, by decide, by decide, by decide, by decide, by decide, by decide⟩
theorem zeros : Isa.reg 0 ++ (Isa.reg 0 ++ (Isa.reg 0 ++ ([32] ++ Lib.itoa 0))) = [32, 114, 48, 32, 114, 48, 32, 114, 48, 32, 48] := by
  have e3 : Lib.itoa 0 = [48] := by rw [show (0 : Int) = ((0 : Nat) : Int) from rfl, Lib.itoa_nonneg, Lib.decDigits_one (by decide)]; rfl
  unfold Isa.reg
  rw [e3]
  rfl
theorem txt_op (A : Int) : Isa.txt A 0 0 0 0 = Isa.nm A ++ [32, 114, 48, 32, 114, 48, 32, 114, 48, 32, 48] := by
  unfold Isa.txt
  rw [List.append_assoc, List.append_assoc, List.append_assoc, List.append_assoc, zeros]
theorem S_toList' (l : List UInt8) : (S l).toList = l := by
  rw [ByteArray.toList_eq]
  exact S_data l
set_option maxHeartbeats 2000000 in
theorem names_law (a b : Int) (w : World) (hL : Laid w) :
    Calls Tryd.prog 6 #[.int .i64 a, .int .i64 b] w fun e w' => e = .returned (.bool true) ∧ Below w.heap.size w w' := by
  have HL := Lib.hid hL
  have C0 := Lib.hid (fit_any w hL)
  clear hL
  obtain ⟨p1, p2, p3, A, e1, e2, e3, e4, hA⟩ := steps43 a
  obtain ⟨q1, q2, q3, B, g1, g2, g3, g4, hB⟩ := steps43 b
  have C1 := Lib.hid (fun (W : World) (h : Laid W) => text_right A 0 0 0 0 W (right_op hA) (by decide) h)
  have C2 := Lib.hid (fun (W : World) (h : Laid W) => text_right B 0 0 0 0 W (right_op hB) (by decide) h)
  have CN := Lib.hid (fun (W : World) => name_any A W)
  have A1 : ∀ w, (Op.stringOp .add (S (Isa.nm A)) { data := #[32, 114, 48, 32, 114, 48, 32, 114, 48, 32, 48] }).run Tryd.prog w = .ok (.string (S (Isa.txt A 0 0 0 0))) w := by
    intro w
    rw [txt_op]
    exact add_c (Isa.nm A) [32, 114, 48, 32, 114, 48, 32, 114, 48, 32, 48] (by have := nm_len A; simp only [List.length_cons, List.length_nil]; omega) w
  have HI := Lib.hid (show Isa.txt A 0 0 0 0 = Isa.txt B 0 0 0 0 ↔ A = B from ⟨fun h => (Isa.txt_inj (right_op hA) (right_op hB) (by decide) (by decide) (by decide) (by decide) h).1, fun h => by rw [h]⟩)
  obtain ⟨tA, eA⟩ : ∃ t, Isa.txt A 0 0 0 0 = t := ⟨_, rfl⟩
  obtain ⟨tB, eB⟩ : ∃ t, Isa.txt B 0 0 0 0 = t := ⟨_, rfl⟩
  obtain ⟨nA, en⟩ : ∃ t, Isa.nm A = t := ⟨_, rfl⟩
  rw [eA] at C1 A1 HI
  rw [eB] at C2 HI
  rw [en] at CN A1
  clear eA eB en hA hB
  by_cases he : A = B
  · subst he
    obtain rfl : tA = tB := HI.out.2 rfl
    clear HI
    go_enter Tryd.func6, Tryd.ntmps6
    go_wp2_with fail
    refine C0.out.mono ?_
    rintro e w1 ⟨rfl, hb⟩
    have HB := Lib.hid hb
    clear hb C0
    go_wp2_with fail
    refine (C1.out _ (HL.out.on HB.out)).mono ?_
    rintro e w2 ⟨rfl, hb⟩
    have HB2 := Lib.hid (HB.out.trans (hb.mono HB.out.size))
    clear hb HB C1
    go_wp2_with fail
    refine (C2.out _ (HL.out.on HB2.out)).mono ?_
    rintro e w3 ⟨rfl, hb⟩
    have HB3 := Lib.hid (HB2.out.trans (hb.mono HB2.out.size))
    clear hb HB2 C2
    go_wp2_with fail
    refine (CN.out _).mono ?_
    rintro e w4 ⟨rfl, hb⟩
    have HB4 := Lib.hid (HB3.out.trans (hb.mono HB3.out.size))
    clear hb HB3 CN
    go_wp2_with fail
    go_ret
    exact ⟨by simp, HB4.out⟩
  · have hne : ¬ tA = tB := fun h => he (HI.out.1 h)
    have n1 : ¬ (S tA).toList = (S tB).toList := by rw [S_toList', S_toList']; exact hne
    have n2 : ((S tA).toList == (S tB).toList) = false := by rw [beq_eq_false_iff_ne]; exact n1
    clear HI hne
    go_enter Tryd.func6, Tryd.ntmps6
    go_wp2_with fail
    refine C0.out.mono ?_
    rintro e w1 ⟨rfl, hb⟩
    have HB := Lib.hid hb
    clear hb C0
    go_wp2_with fail
    refine (C1.out _ (HL.out.on HB.out)).mono ?_
    rintro e w2 ⟨rfl, hb⟩
    have HB2 := Lib.hid (HB.out.trans (hb.mono HB.out.size))
    clear hb HB C1
    go_wp2_with fail
    refine (C2.out _ (HL.out.on HB2.out)).mono ?_
    rintro e w3 ⟨rfl, hb⟩
    have HB3 := Lib.hid (HB2.out.trans (hb.mono HB2.out.size))
    clear hb HB2 C2
    go_wp2_with fail
    refine (CN.out _).mono ?_
    rintro e w4 ⟨rfl, hb⟩
    have HB4 := Lib.hid (HB3.out.trans (hb.mono HB3.out.size))
    clear hb HB3 CN
    go_wp2_with fail
    go_ret
    exact ⟨by simp [he], HB4.out⟩
end Go.Proofs.YtlohilpeidmemaaDoor
