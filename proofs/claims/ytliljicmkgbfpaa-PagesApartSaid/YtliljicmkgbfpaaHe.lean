/- The law PagesShare, over contracts of pages. -/
import Derived.Test.YtliljicmkgbfpaaHd
import Derived.Laws.BitsLemmas
set_option linter.unusedVariables false
set_option linter.unusedSimpArgs false
namespace Pg
theorem ins_cons {k : Nat × Nat} {ks : List (Nat × Nat)} (h : k ∉ ks) : (ins k ks).length = ks.length + 1 := by unfold ins; rw [if_neg h]; rfl
theorem ins_there {k : Nat × Nat} {ks : List (Nat × Nat)} (h : k ∈ ks) : (ins k ks).length = ks.length := by unfold ins; rw [if_pos h]
theorem fill_root (a : Nat) : (fill [(0, 0)] a).length = [((0 : Nat), (0 : Nat))].length + 3 := by
  unfold fill
  rw [ins_cons (by rw [mem_ins, mem_ins]; simp), ins_cons (by rw [mem_ins]; simp), ins_cons (by simp)]
/-- How many tables a second page needs. -/
def want (a b : Nat) : Nat := (if a / 8 = b / 8 then 0 else 1) + (if a / 64 = b / 64 then 0 else 1) + (if a / 512 = b / 512 then 0 else 1)
theorem fill_share (a b : Nat) : (fill (fill [(0, 0)] a) b).length = (fill [(0, 0)] a).length + want a b := by
  have e : ∀ (l q : Nat), 1 ≤ l → ((l, q) ∈ fill [(0, 0)] a ↔ (l = 3 ∧ q = a / 8) ∨ (l = 2 ∧ q = a / 64) ∨ (l = 1 ∧ q = a / 512)) := fun l q hl => by
    rw [mem_fill]; simp; omega
  have e1 := e 1 (b / 512) (by omega)
  have e2 := e 2 (b / 64) (by omega)
  have e3 := e 3 (b / 8) (by omega)
  generalize fill [(0, 0)] a = ks at *
  unfold fill want
  have l1 : (ins (1, b / 512) ks).length = ks.length + if a / 512 = b / 512 then 0 else 1 := by
    by_cases h : a / 512 = b / 512
    · rw [ins_there (e1.2 (by omega)), if_pos h]; rfl
    · rw [ins_cons (fun hh => by have := e1.1 hh; omega), if_neg h]
  have l2 : (ins (2, b / 64) (ins (1, b / 512) ks)).length = (ins (1, b / 512) ks).length + if a / 64 = b / 64 then 0 else 1 := by
    by_cases h : a / 64 = b / 64
    · rw [ins_there (mem_ins.2 (.inr (e2.2 (by omega)))), if_pos h]; rfl
    · rw [ins_cons (fun hh => by
        rcases mem_ins.1 hh with hh | hh
        · simp at hh
        · have := e2.1 hh; omega), if_neg h]
  have l3 : (ins (3, b / 8) (ins (2, b / 64) (ins (1, b / 512) ks))).length = (ins (2, b / 64) (ins (1, b / 512) ks)).length + if a / 8 = b / 8 then 0 else 1 := by
    by_cases h : a / 8 = b / 8
    · rw [ins_there (mem_ins.2 (.inr (mem_ins.2 (.inr (e3.2 (by omega)))))), if_pos h]; rfl
    · rw [ins_cons (fun hh => by
        rcases mem_ins.1 hh with hh | hh
        · simp at hh
        · rcases mem_ins.1 hh with hh | hh
          · simp at hh
          · have := e3.1 hh; omega), if_neg h]
  rw [l3, l2, l1]
  omega
/-- .. of the first k levels. -/
def wantN (a b k : Nat) : Nat := (if 0 < k ∧ a / 8 ≠ b / 8 then 1 else 0) + (if 1 < k ∧ a / 64 ≠ b / 64 then 1 else 0) + (if 2 < k ∧ a / 512 ≠ b / 512 then 1 else 0)
theorem wantN_le (a b k : Nat) : wantN a b k ≤ 3 := by unfold wantN; split <;> split <;> split <;> omega
theorem wantN_all (a b : Nat) : wantN a b 3 = want a b := by
  unfold wantN want
  by_cases h1 : a / 8 = b / 8 <;> by_cases h2 : a / 64 = b / 64 <;> by_cases h3 : a / 512 = b / 512 <;> simp [h1, h2, h3]
theorem want_le (a b : Nat) : want a b ≤ 3 := by rw [← wantN_all]; exact wantN_le a b 3
end Pg
namespace Go.Proofs.Ytliljicmkgbfpaa
open Go.RowKit Pg
set_option linter.unusedVariables false
set_option linter.unusedSimpArgs false
theorem i64_and4095 (n : Int) : bits .and .i64 n 4095 = n % 4096 := by
  have h127 : (BitVec.ofInt 64 4095).toNat = 2 ^ 12 - 1 := by decide
  have key : (BitVec.ofInt 64 n &&& BitVec.ofInt 64 4095).toNat = (n % ((2 ^ 64 : Nat) : Int)).toNat % 2 ^ 12 := by
    rw [BitVec.toNat_and, BitVec.toNat_ofInt, h127, Nat.and_two_pow_sub_one_eq_mod]
  show IntKind.i64.wrap ((BitVec.ofInt 64 n &&& BitVec.ofInt 64 4095).toNat : Nat) = n % 4096
  rw [key, IntKind.wrap_i64]
  omega
theorem below_drewN {B : Nat} {w w' : World} (h : Below B w w') (n : Nat) : Below B w (w'.drewN n) := ⟨h.os, h.tape, h.output, h.size, h.block⟩
theorem and4095 (n : Int) : ∃ a : Nat, bits .and .i64 n 4095 = (a : Int) ∧ a < 4096 := ⟨(n % 4096).toNat, by rw [i64_and4095]; omega, by omega⟩
set_option maxRecDepth 100000 in
set_option maxHeartbeats 4000000 in
theorem share_all (x y : Int) (w : World) : Calls Try.prog 5 #[.int .i64 x, .int .i64 y] w fun e w' => e = .returned (.bool true) ∧ Below w.heap.size w w' := by
  have B := Lib.hid fit_any
  obtain ⟨a, ea, a1⟩ := and4095 x
  obtain ⟨b, eb, b1⟩ := and4095 y
  go_enter Try.func5, Try.ntmps5
  go_wp2_with fail
  refine (B.out _).mono ?_; rintro e w0 ⟨rfl, g0⟩
  have N := Lib.hid (new_st 20 w w0 [] (by omega) (by omega) g0 (by simp))
  clear g0
  go_wp2_with fail
  refine N.out.mono ?_; rintro e w1 ⟨R, ds, rfl, h1, _⟩
  have A1 := Lib.hid (alloc_st 1 h1 (by omega) 1 1 ((List.replicate 20 0).set 0 1) rfl rfl)
  have D1 := Lib.hid h1.len.1
  clear h1 N
  go_wp2_with fail
  refine A1.out.mono ?_; rintro e w2 ⟨rfl, h2, _⟩
  have t2 : Tb ((List.replicate 20 0).set 0 1) (ds.set 0 Fr.zeros) 1 [(0, 0)] (fun _ _ => 1) (fun _ => none) := root_new (List.replicate 20 0) ds 1 0 (by omega) rfl rfl (by simp) rfl rfl D1.out
  have F1 := Lib.hid (fill_st h2 t2 1 a 5 3 1 true rfl a 5 3 rfl a1 rfl (by omega) (by omega) rfl (fill_root a) (by omega) (by omega) (by decide))
  clear h2 t2 A1
  go_wp2_with fail
  refine F1.out.mono ?_; rintro e w3 ⟨rfl, os3, ds3, nd3, h3, t3, r3, _, c3, _⟩
  have c3' : os3.count 0 = 16 := by have : ((List.replicate 20 0).set 0 1).count 0 = 19 := by decide
                                    omega
  obtain ⟨q, hq⟩ : ∃ q, want a b = q := ⟨_, rfl⟩
  have q3 := want_le a b
  have hs := fill_share a b
  rw [hq] at hs q3
  have F2 := Lib.hid (fill_st h3 t3 1 b 6 3 1 false (by rw [r3]; rfl) b 6 q rfl b1 rfl (by omega) (by omega) rfl hs (by omega) (by omega) (by omega))
  have HQ := Lib.hid hq
  clear h3 t3 F1 hs hq c3 c3'
  go_wp2_with fail
  refine F2.out.mono ?_; rintro e w4 ⟨rfl, os4, ds4, nd4, h4, t4, r4, _, c4, _⟩
  have HT := Lib.hid t4
  have HS := Lib.hid (h4.below (below_alloc1 w4 (Obj.cells #[.int .i64 3, .int .i64 6, .int .i64 9] 3)))
  have R4 := Lib.hid (show ((nd4 0 0 : Nat) : Int) = 1 by rw [r4, r3]; rfl)
  clear h4 t4 F2 c4 r4 r3
  go_wp2_with fail
  obtain ⟨WL, hWL⟩ : ∃ WL, w4.alloc (Obj.cells #[.int .i64 3, .int .i64 6, .int .i64 9] 3) = WL := ⟨_, rfl⟩
  have CL := Lib.hid (show ∀ wr, Below WL.heap.size WL wr → wr.cell? ⟨w4.heap.size, 0, none⟩ = some (.int .i64 3) ∧ wr.cell? ⟨w4.heap.size, 1, none⟩ = some (.int .i64 6) ∧ wr.cell? ⟨w4.heap.size, 2, none⟩ = some (.int .i64 9) from by
    intro wr g
    have hl : w4.heap.size < WL.heap.size := by rw [← hWL]; simp
    have hh : WL.heap[w4.heap.size]? = some (Obj.cells #[.int .i64 3, .int .i64 6, .int .i64 9] 3) := by rw [← hWL]; exact heap_alloc_new _ _
    refine ⟨?_, ?_, ?_⟩ <;> (rw [g.cell (p := ⟨w4.heap.size, _, none⟩) hl, cell_of_row _ _ _ _ 3 (0, 0) hh]; rfl))
  rw [hWL] at HS ⊢
  clear hWL
  generalize w4.heap.size = G at CL ⊢
  go_loopg [45, 11] 3 (fun g i c wr => ∃ k : Nat, k ≤ 3 ∧ g = 3 - k ∧ i = .int .i64 k ∧ c = .int .i64 (wantN a b k : Nat) ∧ Below WL.heap.size WL wr)
  case atStart => exact ⟨0, by omega, by omega, rfl, by unfold wantN; simp, Below.refl _ WL⟩
  case round =>
    obtain ⟨k, hk, hg, rfl, rfl, gk⟩ := hrel
    obtain ⟨cl0, cl1, cl2⟩ := CL.out wr gk
    have GK := Lib.hid gk
    clear gk
    have h5 : k = 0 ∨ k = 1 ∨ k = 2 ∨ k = 3 := by omega
    rcases h5 with rfl | rfl | rfl | rfl
    · obtain ⟨c, hc⟩ : ∃ c, wantN a b 0 = c := ⟨_, rfl⟩
      have c3 := wantN_le a b 0
      rw [hc] at c3 ⊢
      by_cases h : a / 8 = b / 8
      · have HC := Lib.hid (show wantN a b 1 = c by rw [← hc]; unfold wantN; simp [h])
        have t1 : ((a : Int) / 8 != (b : Int) / 8) = false := by simp; omega
        have t2 : ((a : Int) / 8 == (b : Int) / 8) = true := by simp; omega
        clear hc h
        go_wp2_with fail
        go_quiet (fail)
        go_wp2_with fail
        go_roundg (3 - 1)
        case rel => exact ⟨1, by omega, rfl, by first | rfl | go_num, by rw [HC.out], below_drewN GK.out _⟩
        case measure => omega
      · have HC := Lib.hid (show wantN a b 1 = c + 1 by rw [← hc]; unfold wantN; simp [h])
        have t1 : ((a : Int) / 8 != (b : Int) / 8) = true := by simp; omega
        have t2 : ((a : Int) / 8 == (b : Int) / 8) = false := by simp; omega
        clear hc h
        go_wp2_with fail
        go_quiet (fail)
        go_wp2_with fail
        go_roundg (3 - 1)
        case rel => exact ⟨1, by omega, rfl, by first | rfl | go_num, by rw [HC.out]; go_num, below_drewN GK.out _⟩
        case measure => omega
    · obtain ⟨c, hc⟩ : ∃ c, wantN a b 1 = c := ⟨_, rfl⟩
      have c3 := wantN_le a b 1
      rw [hc] at c3 ⊢
      by_cases h : a / 64 = b / 64
      · have HC := Lib.hid (show wantN a b 2 = c by rw [← hc]; unfold wantN; simp [h])
        have t1 : ((a : Int) / 64 != (b : Int) / 64) = false := by simp; omega
        have t2 : ((a : Int) / 64 == (b : Int) / 64) = true := by simp; omega
        clear hc h
        go_wp2_with fail
        go_quiet (fail)
        go_wp2_with fail
        go_roundg (3 - 2)
        case rel => exact ⟨2, by omega, rfl, by first | rfl | go_num, by rw [HC.out], below_drewN GK.out _⟩
        case measure => omega
      · have HC := Lib.hid (show wantN a b 2 = c + 1 by rw [← hc]; unfold wantN; simp [h])
        have t1 : ((a : Int) / 64 != (b : Int) / 64) = true := by simp; omega
        have t2 : ((a : Int) / 64 == (b : Int) / 64) = false := by simp; omega
        clear hc h
        go_wp2_with fail
        go_quiet (fail)
        go_wp2_with fail
        go_roundg (3 - 2)
        case rel => exact ⟨2, by omega, rfl, by first | rfl | go_num, by rw [HC.out]; go_num, below_drewN GK.out _⟩
        case measure => omega
    · obtain ⟨c, hc⟩ : ∃ c, wantN a b 2 = c := ⟨_, rfl⟩
      have c3 := wantN_le a b 2
      rw [hc] at c3 ⊢
      by_cases h : a / 512 = b / 512
      · have HC := Lib.hid (show wantN a b 3 = c by rw [← hc]; unfold wantN; simp [h])
        have t1 : ((a : Int) / 512 != (b : Int) / 512) = false := by simp; omega
        have t2 : ((a : Int) / 512 == (b : Int) / 512) = true := by simp; omega
        clear hc h
        go_wp2_with fail
        go_quiet (fail)
        go_wp2_with fail
        go_roundg (3 - 3)
        case rel => exact ⟨3, by omega, rfl, by first | rfl | go_num, by rw [HC.out], below_drewN GK.out _⟩
        case measure => omega
      · have HC := Lib.hid (show wantN a b 3 = c + 1 by rw [← hc]; unfold wantN; simp [h])
        have t1 : ((a : Int) / 512 != (b : Int) / 512) = true := by simp; omega
        have t2 : ((a : Int) / 512 == (b : Int) / 512) = false := by simp; omega
        clear hc h
        go_wp2_with fail
        go_quiet (fail)
        go_wp2_with fail
        go_roundg (3 - 3)
        case rel => exact ⟨3, by omega, rfl, by first | rfl | go_num, by rw [HC.out]; go_num, below_drewN GK.out _⟩
        case measure => omega
    · rw [wantN_all, HQ.out]
      have S1 := Lib.hid (HS.out.below GK.out)
      by_cases hab : a = b
      · have t1 : ((a : Int) == (b : Int)) = true := by simp; omega
        have X1 := Lib.hid (walk_st S1.out HT.out 1 a R4.out (by omega) (by omega) (some (6, false)) (by unfold at_ upd; rw [if_pos (by omega), Int.toNat_natCast, if_pos hab]) 6 rfl)
        clear hab
        go_wp2_with fail
        refine X1.out.mono ?_; rintro e w5 ⟨rfl, h5, _, _⟩
        have X2 := Lib.hid (walk_st h5 HT.out 1 b R4.out (by omega) (by omega) (some (6, false)) (by unfold at_ upd; rw [if_pos (by omega), Int.toNat_natCast, if_pos rfl]) 6 rfl)
        clear h5
        go_wp2_with fail
        refine X2.out.mono ?_; rintro e w6 ⟨rfl, h6, _, _⟩
        have B6 := Lib.hid h6.b
        clear h6
        go_wp2_with fail
        go_ret
        exact ⟨rfl, B6.out⟩
      · have t1 : ((a : Int) == (b : Int)) = false := by simp; omega
        have X1 := Lib.hid (walk_st S1.out HT.out 1 a R4.out (by omega) (by omega) (some (5, true)) (by unfold at_ upd; rw [if_pos (by omega), Int.toNat_natCast, if_neg hab, if_pos rfl]) 5 rfl)
        clear hab
        go_wp2_with fail
        refine X1.out.mono ?_; rintro e w5 ⟨rfl, h5, _, _⟩
        have X2 := Lib.hid (walk_st h5 HT.out 1 b R4.out (by omega) (by omega) (some (6, false)) (by unfold at_ upd; rw [if_pos (by omega), Int.toNat_natCast, if_pos rfl]) 6 rfl)
        clear h5
        go_wp2_with fail
        refine X2.out.mono ?_; rintro e w6 ⟨rfl, h6, _, _⟩
        have B6 := Lib.hid h6.b
        clear h6
        go_wp2_with fail
        go_ret
        exact ⟨rfl, B6.out⟩
end Go.Proofs.Ytliljicmkgbfpaa
