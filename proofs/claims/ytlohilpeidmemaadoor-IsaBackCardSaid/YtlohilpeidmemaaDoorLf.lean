import Derived.Test.YtlohilpeidmemaaDoorLc
import Derived.Test.YtlohilpeidmemaaDoorAi
import Derived.Deep.CutBlock
import Derived.Deep.DeepCutAuto
namespace Go.Proofs.YtlohilpeidmemaaDoor
open Go.RowKit
set_option linter.unusedVariables false
set_option linter.unusedSimpArgs false
theorem digits_neg (k : Nat) (h1 : 1 ≤ k) (h2 : k ≤ 2147483648) (w : World) : Calls Tryd.prog 16 #[.int .i64 (-(k : Int))] w fun e w' => e = .returned (.string (S (Lib.itoa (-(k : Int))))) ∧ Below w.heap.size w w' := by
  have C := Lib.hid (fun (W : World) => digits_nat k (by omega) W)
  have A1 : ∀ w, (Op.stringOp .add { data := #[45] } (S (Lib.itoa (k : Int)))).run Tryd.prog w = .ok (.string (S (Lib.itoa (-(k : Int))))) w := by
    intro w
    rw [Lib.itoa_neg k h1, Lib.itoa_nonneg]
    exact add_c [45] (Lib.decDigits k) (by have := itoa_len k (by omega); rw [Lib.itoa_nonneg] at this; simp only [List.length_cons, List.length_nil]; omega) w
  have hw : wrap64 (k : Int) = k := by unfold wrap64; omega
  have h0 : (-(k : Int)) < 0 := by omega
  clear h1 h2
  go_enter Tryd.func16, Tryd.ntmps16
  go_wp2_with fail
  refine (C.out _).mono ?_
  rintro e w1 ⟨rfl, hb⟩
  have HB := Lib.hid hb
  clear hb
  go_wp2_with fail
  go_ret
  exact ⟨rfl, HB.out⟩
theorem digits_i32 (n : Int) (h : -2147483648 ≤ n ∧ n ≤ 2147483647) (w : World) : Calls Tryd.prog 16 #[.int .i64 n] w fun e w' => e = .returned (.string (S (Lib.itoa n))) ∧ Below w.heap.size w w' := by
  by_cases hn : n < 0
  · obtain ⟨k, rfl⟩ : ∃ k : Nat, n = -(k : Int) := ⟨n.natAbs, by omega⟩
    exact digits_neg k (by omega) (by omega) w
  · obtain ⟨k, rfl⟩ : ∃ k : Nat, n = (k : Int) := ⟨n.toNat, by omega⟩
    exact digits_nat k (by omega) w
theorem im_enc {m : Int} (h : -2147483648 ≤ m ∧ m ≤ 2147483647) : Isa.im [(m / 16777216 % 256).toNat, (m / 65536 % 256).toNat, (m / 256 % 256).toNat, (m % 256).toNat] = m := by
  have g1 : m = m / 256 * 256 + m % 256 := by omega
  have g2 : m / 256 = m / 65536 * 256 + m / 256 % 256 := by omega
  have g3 : m / 65536 = m / 16777216 * 256 + m / 65536 % 256 := by omega
  have g4 : -128 ≤ m / 16777216 ∧ m / 16777216 ≤ 127 := by omega
  have r1 : 0 ≤ m % 256 ∧ m % 256 < 256 := by omega
  have r2 : 0 ≤ m / 256 % 256 ∧ m / 256 % 256 < 256 := by omega
  have r3 : 0 ≤ m / 65536 % 256 ∧ m / 65536 % 256 < 256 := by omega
  have r5 : 0 ≤ m / 16777216 % 256 ∧ m / 16777216 % 256 < 256 := by omega
  have r4 : m / 16777216 % 256 = m / 16777216 ∨ m / 16777216 % 256 = m / 16777216 + 256 := by omega
  have e : Isa.im [(m / 16777216 % 256).toNat, (m / 65536 % 256).toNat, (m / 256 % 256).toNat, (m % 256).toNat] = wrap32 ((((((0 * 256 + (m / 16777216 % 256).toNat) * 256 + (m / 65536 % 256).toNat) * 256 + (m / 256 % 256).toNat) * 256 + (m % 256).toNat : Nat)) : Int) := rfl
  rw [e]
  clear e
  generalize m / 16777216 % 256 = a4 at *
  generalize m / 65536 % 256 = a3 at *
  generalize m / 256 % 256 = a2 at *
  generalize m % 256 = a1 at *
  generalize m / 16777216 = d at *
  generalize m / 65536 = d3 at *
  generalize m / 256 = d2 at *
  have hN : ((((((0 * 256 + a4.toNat) * 256 + a3.toNat) * 256 + a2.toNat) * 256 + a1.toNat : Nat)) : Int) = m ∨ ((((((0 * 256 + a4.toNat) * 256 + a3.toNat) * 256 + a2.toNat) * 256 + a1.toNat : Nat)) : Int) = m + 4294967296 := by omega
  generalize ((((((0 * 256 + a4.toNat) * 256 + a3.toNat) * 256 + a2.toNat) * 256 + a1.toNat : Nat)) : Int) = N at *
  clear g1 g2 g3 g4 r1 r2 r3 r4 r5
  unfold wrap32
  omega
theorem txt_len {o a b c m : Int} (h : Isa.Right o a b c) (hm : -2147483648 ≤ m ∧ m ≤ 2147483647) : (Isa.txt o a b c m).length ≤ 1000 := by
  have l0 := nm_len o
  have l1 := reg_len a ⟨h.2.2.1, h.2.2.2.1⟩
  have l2 := reg_len b ⟨h.2.2.2.2.1, h.2.2.2.2.2.1⟩
  have l3 := reg_len c h.2.2.2.2.2.2
  have l4 := Lib.itoa_length_le m (by omega) (by omega)
  unfold Isa.txt
  simp only [List.length_append, List.length_cons, List.length_nil]
  omega
theorem words_rest (a b c m : Int) : words (Isa.rest a b c m) = Lib.splitK [32] 0 3 (Isa.rest a b c m) := by
  have := Isa.rest_length a b c m
  unfold words
  rw [show min 4 ((Isa.rest a b c m).length + 1) - 1 = 3 by omega]
/-- Parse takes a text back. -/
theorem parse_text (o a b c m : Int) (h : Isa.Right o a b c) (hm : -2147483648 ≤ m ∧ m ≤ 2147483647) (w : World) (hL : LaidP w) :
    Calls Tryd.prog 14 #[.string (S (Isa.txt o a b c m))] w fun e w' => e = .returned (.tuple #[.agg #[.int .i64 o, .int .i64 a, .int .i64 b, .int .i64 c, .int .i32 m], .bool true]) ∧ Below w.heap.size w w' := by
  refine (parse_any (Isa.txt o a b c m) (txt_len h hm) w hL).mono ?_
  rintro e w' ⟨r, F, ok, hop, hF, hok, rfl, hb⟩
  rw [Isa.cut_txt] at hop hF
  have hr := hop.nm h.1 h.2.1
  rw [words_rest, Isa.fold_rest ⟨h.2.2.1, h.2.2.2.1⟩ ⟨h.2.2.2.2.1, h.2.2.2.2.2.1⟩ h.2.2.2.2.2.2 hm] at hF
  subst hr hF
  rw [decide_eq_true ⟨h, rfl⟩] at hok
  subst hok
  exact ⟨rfl, hb⟩
end Go.Proofs.YtlohilpeidmemaaDoor
