import Derived.Test.YtlohilpeidmemaaDoorAg
import Derived.Test.YtlohilpeidmemaaDoorAh
import Derived.Deep.RegionHeld3
namespace Go.Proofs.YtlohilpeidmemaaDoor
open Go.RowKit
set_option linter.unusedVariables false
set_option linter.unusedSimpArgs false

theorem wrap_two (N : Nat) (h : N < 4294967296) : wrap32 (N : Int) = N ∨ wrap32 (N : Int) = (N : Int) - 4294967296 := by
  unfold wrap32
  omega
theorem four {m : Int} {N a b c d : Nat} (hN : N = a * 16777216 + b * 65536 + c * 256 + d) (ha : a < 256) (hb : b < 256) (hc : c < 256) (hd : d < 256) (hm : m = N ∨ m = (N : Int) - 4294967296) :
    m / 16777216 % 256 = a ∧ m / 65536 % 256 = b ∧ m / 256 % 256 = c ∧ m % 256 = d := by
  have h1 : m / 256 = (a : Int) * 65536 + b * 256 + c ∨ m / 256 = (a : Int) * 65536 + b * 256 + c - 16777216 := by omega
  have h2 : m / 65536 = (a : Int) * 256 + b ∨ m / 65536 = (a : Int) * 256 + b - 65536 := by omega
  have h3 : m / 16777216 = (a : Int) ∨ m / 16777216 = (a : Int) - 256 := by omega
  refine ⟨by omega, by omega, by omega, by omega⟩
theorem enc_im {x0 x1 x2 x3 x4 x5 x6 x7 : Nat} (h0 : x0 < 256) (h1 : x1 < 256) (h2 : x2 < 256) (h3 : x3 < 256) (h4 : x4 < 256) (h5 : x5 < 256) (h6 : x6 < 256) (h7 : x7 < 256) :
    Isa.enc x0 x1 x2 x3 (Isa.im [x4, x5, x6, x7]) = [x0, x1, x2, x3, x4, x5, x6, x7] := by
  have e : Isa.im [x4, x5, x6, x7] = wrap32 ((((((0 * 256 + x4) * 256 + x5) * 256 + x6) * 256 + x7 : Nat)) : Int) := rfl
  have hN : ((((0 * 256 + x4) * 256 + x5) * 256 + x6) * 256 + x7 : Nat) = x4 * 16777216 + x5 * 65536 + x6 * 256 + x7 := by omega
  obtain ⟨N, eN⟩ : ∃ N, (((0 * 256 + x4) * 256 + x5) * 256 + x6) * 256 + x7 = N := ⟨_, rfl⟩
  rw [eN] at e hN
  have hm := wrap_two N (by omega)
  rw [← e] at hm
  obtain ⟨m, em⟩ : ∃ m, Isa.im [x4, x5, x6, x7] = m := ⟨_, rfl⟩
  rw [em] at hm ⊢
  clear e em eN
  obtain ⟨a1, a2, a3, a4⟩ := four hN h4 h5 h6 h7 hm
  unfold Isa.enc
  rw [a1, a2, a3, a4]
  simp only [List.cons.injEq, and_true]
  clear hN hm a1 a2 a3 a4
  refine ⟨?_, ?_, ?_, ?_, ?_, ?_, ?_, ?_⟩ <;> omega
theorem ret_true {b : Bool} (h : b = true) : Ending.returned (.bool b) = .returned (.bool true) := by rw [h]
theorem im_bounds (l : List Nat) : -2147483648 ≤ Isa.im l ∧ Isa.im l ≤ 2147483647 := by
  unfold Isa.im wrap32
  omega
theorem BR.cells8 {w : World} {bl off : Nat} {x0 x1 x2 x3 x4 x5 x6 x7 : Nat} (h : BR w (some ⟨bl, off, none⟩) [x0, x1, x2, x3, x4, x5, x6, x7]) :
    w.cell? ⟨bl, off, none⟩ = some (.int .u8 (x0 : Int)) ∧ w.cell? ⟨bl, off + 1, none⟩ = some (.int .u8 (x1 : Int)) ∧ w.cell? ⟨bl, off + 2, none⟩ = some (.int .u8 (x2 : Int)) ∧ w.cell? ⟨bl, off + 3, none⟩ = some (.int .u8 (x3 : Int)) := by
  have at_ : ∀ (i x : Nat), [x0, x1, x2, x3, x4, x5, x6, x7][i]? = some x → w.cell? ⟨bl, off + i, none⟩ = some (.int .u8 (x : Int)) := fun i x hi => by
    obtain ⟨b', off', e, h2, h3⟩ := h i x hi
    injection e with e
    injection e with e1 e2
    subst e1 e2
    exact h3
  exact ⟨at_ 0 x0 rfl, at_ 1 x1 rfl, at_ 2 x2 rfl, at_ 3 x3 rfl⟩
/-- Bytes that are not eight. -/
theorem bytes_bad (A : Option Addr) (n c : Nat) (w : World) (hn : n ≠ 8) (hm : n ≤ 9223372036854775807) (hL : Laid w) :
    Calls Tryd.prog 4 #[.slice A n c] w fun e w' => e = .returned (.bool true) ∧ Below w.heap.size w w' := by
  have C0 := Lib.hid (fit_any w hL)
  have C1 := Lib.hid (fun (W : World) => decode_bad A n c W hn)
  clear hL
  have hn1 : ¬ ((n : Int) = 8) := by omega
  clear hn
  by_cases hs : 100 < n
  · go_enter Tryd.func4, Tryd.ntmps4
    go_wp2_with fail
    refine C0.out.mono ?_
    rintro e w1 ⟨rfl, hb⟩
    have HB := Lib.hid hb
    clear hb C0
    go_wp2_with fail
    go_ret
    exact ⟨rfl, HB.out⟩
  · go_enter Tryd.func4, Tryd.ntmps4
    go_wp2_with fail
    refine C0.out.mono ?_
    rintro e w1 ⟨rfl, hb⟩
    have HB := Lib.hid hb
    clear hb C0
    go_wp2_with fail
    refine (C1.out _).mono ?_
    unfold zeroV
    rintro e w2 ⟨rfl, hb⟩
    have HB2 := Lib.hid (fun o => (HB.out.trans (hb.mono HB.out.size)).alloc (HB.out.trans (hb.mono HB.out.size)).size o)
    clear hb HB
    go_wp2_with fail
    go_ret
    exact ⟨rfl, HB2.out _⟩
/-- Eight bytes that are no instruction's. -/
theorem bytes_wrong (bl off c : Nat) (x0 x1 x2 x3 x4 x5 x6 x7 : Nat) (w : World) (hc : 8 ≤ c) (hr : BR w (some ⟨bl, off, none⟩) [x0, x1, x2, x3, x4, x5, x6, x7]) (hb : ∀ y ∈ [x0, x1, x2, x3, x4, x5, x6, x7], y < 256)
    (hR : ¬ Isa.Right x0 x1 x2 x3) (hL : Laid w) :
    Calls Tryd.prog 4 #[.slice (some ⟨bl, off, none⟩) 8 c] w fun e w' => e = .returned (.bool true) ∧ Below w.heap.size w w' := by
  have C0 := Lib.hid (fit_any w hL)
  have C1 := Lib.hid (fun (W : World) (h : BR W (some ⟨bl, off, none⟩) [x0, x1, x2, x3, x4, x5, x6, x7]) => decode_in bl off c x0 x1 x2 x3 x4 x5 x6 x7 W hc h hb _ rfl false (decide_eq_false hR) zeroV rfl)
  have C2 := Lib.hid (fun (W : World) => name_any (x0 : Int) W)
  have HRR := Lib.hid hr
  have hw : IntKind.i64.wrap (x0 : Int) = x0 := IntWalk.i64_in _ (by have := hb x0 (by simp); omega)
  have hw2 : wrap64 (x0 : Int) = x0 := by have := hb x0 (by simp); unfold wrap64; omega
  have HR := Lib.hid hR
  clear hL hr hb hR
  go_enter Tryd.func4, Tryd.ntmps4
  go_wp2_with fail
  refine C0.out.mono ?_
  rintro e w1 ⟨rfl, hb⟩
  have HB := Lib.hid hb
  clear hb C0
  go_wp2_with fail
  refine (C1.out _ (HRR.out.below HB.out)).mono ?_
  unfold zeroV
  rintro e w2 ⟨rfl, hb⟩
  have HB2 := Lib.hid ((HB.out.trans (hb.mono HB.out.size)).alloc (HB.out.trans (hb.mono HB.out.size)).size (Obj.cells #[.int .i64 0, .int .i64 0, .int .i64 0, .int .i64 0, .int .i32 0] 23))
  clear hb HB C1
  obtain ⟨k0, k1, k2, k3⟩ := (HRR.out.below HB2.out).cells8
  go_wp2_with fail
  refine (C2.out _).mono ?_
  rintro e w3 ⟨rfl, hb⟩
  have HB3 := Lib.hid (HB2.out.trans (hb.mono HB2.out.size))
  clear hb HB2 C2 k0 k1 k2 k3
  obtain ⟨k0, k1, k2, k3⟩ := (HRR.out.below HB3.out).cells8
  by_cases h0 : 1 ≤ (x0 : Int) ∧ (x0 : Int) ≤ 43
  · have n1 := S_full (Isa.nm_full h0.1 h0.2)
    have n2 : ((S (Isa.nm (x0 : Int))).toList == ([] : List UInt8)) = false := by rw [beq_eq_false_iff_ne]; exact n1
    have H0 := Lib.hid h0
    clear h0
    go_wp2_with fail
    all_goals
      go_ret
      exact ⟨ret_true (by first | rfl | (simp only [Bool.or_eq_true, decide_eq_true_iff]; have a1 := HR.out; have b1 := H0.out; unfold Isa.Right at a1; omega)), HB3.out⟩
  · have n1 : (S (Isa.nm (x0 : Int))).toList = [] := by rw [S_toList, Isa.nm_none h0]
    clear h0
    go_wp2_with fail
    go_ret
    exact ⟨by simp, HB3.out⟩
end Go.Proofs.YtlohilpeidmemaaDoor
