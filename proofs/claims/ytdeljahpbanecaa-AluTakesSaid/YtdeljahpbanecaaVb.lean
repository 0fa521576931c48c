/- Branches, widths and places. -/
import Derived.Test.YtdeljahpbanecaaVg
namespace Go.Proofs.Ytdeljahpbanecaa
open Go.RowKit
set_option linter.unusedVariables false
set_option linter.unusedSimpArgs false
theorem takes_isG (op : Int) (a b : Nat) (t : Bool) (w : World) (ha : a < 18446744073709551616) (hb : b < 18446744073709551616) (h : Alu.takes op a b = t) : Calls Try.prog 14 #[.int .i64 op, .int .u64 a, .int .u64 b] w fun e w' => e = .returned (.bool t) ∧ Grown w w' := by
  subst h; exact takes_any op a b w ha hb
theorem rtakes_isG (op : Int) (a b : Nat) (t : Bool) (w : World) (ha : a < 18446744073709551616) (hb : b < 18446744073709551616) (h : Alu.takes op a b = t) : Calls Try.prog 15 #[.int .i64 op, .int .u64 a, .int .u64 b] w fun e w' => e = .returned (.bool t) ∧ w = w' := by
  subst h; exact rtakes_any op a b w ha hb
set_option maxHeartbeats 4000000 in
theorem takes_all (op imm : Int) (a b : Nat) (w : World) (ha : a < 18446744073709551616) (hb : b < 18446744073709551616) (m1 : -2147483648 ≤ imm) (m2 : imm ≤ 2147483647) : Calls Try.prog 4 #[.int .i64 op, .agg #[.int .u64 a, .int .u64 b], .int .i32 imm] w fun e w' => e = .returned (.bool true) ∧ Grown w w' := by
  have B := Lib.hid fit_any
  obtain ⟨nw, hnw⟩ : ∃ nw, (Alu.width op).1 = nw := ⟨_, rfl⟩
  obtain ⟨sw, hsw⟩ : ∃ sw, (Alu.width op).2 = sw := ⟨_, rfl⟩
  obtain ⟨t, ht⟩ : ∃ t, Alu.takes op a b = t := ⟨_, rfl⟩
  have A1 : ∀ w, Calls Try.prog 12 #[.int .i64 op] w fun e w' => e = .returned (.tuple #[.int .i64 nw, .bool sw]) ∧ Grown w w' := by
    intro w; rw [← hnw, ← hsw]; exact width_any op w
  have A2 : ∀ w, Calls Try.prog 13 #[.int .i64 op] w fun e w' => e = .returned (.tuple #[.int .i64 nw, .bool sw]) ∧ w = w' := by
    intro w; rw [← hnw, ← hsw]; exact rwidth_any op w
  have A := Lib.hid (And.intro A1 A2)
  clear A1 A2
  have T := Lib.hid (And.intro (fun w => takes_isG op a b t w ha hb ht) (fun w => rtakes_isG op a b t w ha hb ht))
  have P := Lib.hid (show ∀ v : Int, (v = 0 ∨ v = 1 ∨ v = 2 ∨ v = 4 ∨ v = 8) → ∃ (n : Int) (t : Bool), (∀ w, Calls Try.prog 16 #[.int .u64 a, .int .i32 imm, .int .i64 v] w fun e w' => e = .returned (.tuple #[.int .i64 n, .bool t]) ∧ Grown w w') ∧
      (∀ w, Calls Try.prog 17 #[.int .u64 a, .int .i32 imm, .int .i64 v] w fun e w' => e = .returned (.tuple #[.int .i64 n, .bool t]) ∧ w = w') from
    fun v hv => ⟨_, _, fun w => place_any a imm v w hv ha m1 m2, fun w => rplace_any a imm v w ha m1 m2⟩)
  have W0 := Lib.hid ((Grown.refl w).alloc #[Value.int IntKind.u64 a, Value.int IntKind.u64 b] 27)
  go_enter Try.func4, Try.ntmps4
  go_wp2_with fail
  refine (B.out _).mono ?_; rintro e w1 ⟨rfl, g1⟩
  have c0 : w1.cell? ⟨w.heap.size, 0, none⟩ = some (.int .u64 a) := by rw [g1.1.cell (by simp) (by simp)]; simp
  have c1 : w1.cell? ⟨w.heap.size, 1, none⟩ = some (.int .u64 b) := by rw [g1.1.cell (by simp) (by simp)]; simp
  have G1 := Lib.hid (grown_trans W0.out g1)
  clear g1 hnw hsw ht
  have e1 : (t != t) = false := by simp
  have e2 : (nw != nw) = false := by simp
  have e3 : (sw != sw) = false := by simp
  go_wp2_with fail
  go_quiet (fail)
  have G2 := Lib.hid (show Grown w (w1.drewN nq) from grown_trans G1.out (grown_drewN w1 nq))
  have S2 := Lib.hid (show (w1.drewN nq).heap.size = w1.heap.size from rfl)
  generalize w1.drewN nq = w2 at G2 S2 ⊢
  clear c0 c1 G1
  go_wp2_with fail
  refine (A.out.1 _).mono ?_; rintro e w3 ⟨rfl, g3⟩
  go_wp2_with fail
  refine (A.out.2 _).mono ?_; rintro e w' ⟨rfl, rfl⟩
  go_wp2_with fail
  refine (T.out.1 _).mono ?_; rintro e w4 ⟨rfl, g4⟩
  go_wp2_with fail
  refine (T.out.2 _).mono ?_; rintro e w' ⟨rfl, rfl⟩
  have G4 := Lib.hid (grown_trans G2.out (grown_trans g3 g4))
  clear g3 g4 G2 S2
  go_wp2_with fail
  obtain ⟨WL, hWL⟩ : ∃ WL, WL = w4.alloc (Obj.cells #[.int .i64 0, .int .i64 1, .int .i64 2, .int .i64 4, .int .i64 8] 3) := ⟨_, rfl⟩
  have GL := Lib.hid (show Grown w WL by rw [hWL]; exact G4.out.alloc _ _)
  have cl : ∀ k : Nat, k < 5 → ∃ v, (v = 0 ∨ v = 1 ∨ v = 2 ∨ v = 4 ∨ v = 8) ∧ ∀ wr, Grown WL wr → wr.cell? ⟨w4.heap.size, k, none⟩ = some (.int .i64 v) := by
    intro k hk
    have h : ∀ v, WL.cell? ⟨w4.heap.size, k, none⟩ = some v → ∀ wr, Grown WL wr → wr.cell? ⟨w4.heap.size, k, none⟩ = some v := by
      intro v h wr g; rw [g.1.cell (by rw [hWL]; simp) (by simp)]; exact h
    have h5 : k = 0 ∨ k = 1 ∨ k = 2 ∨ k = 3 ∨ k = 4 := by omega
    rcases h5 with rfl | rfl | rfl | rfl | rfl 
    · exact ⟨0, by omega, h _ (by rw [hWL]; simp)⟩
    · exact ⟨1, by omega, h _ (by rw [hWL]; simp)⟩
    · exact ⟨2, by omega, h _ (by rw [hWL]; simp)⟩
    · exact ⟨4, by omega, h _ (by rw [hWL]; simp)⟩
    · exact ⟨8, by omega, h _ (by rw [hWL]; simp)⟩
  have CL := Lib.hid cl
  rw [← hWL]
  clear hWL cl m1 m2 ha hb
  go_loopg [56] 5 (fun g i wr => ∃ k : Nat, k ≤ 5 ∧ g = 5 - k ∧ i = .int .i64 k ∧ Grown WL wr)
  case atStart => exact ⟨0, by omega, by omega, rfl, Grown.refl WL⟩
  case round =>
    obtain ⟨k, hk, hg, rfl, gk⟩ := hrel
    have K := Lib.hid (And.intro hk (And.intro hg gk))
    clear hk hg gk
    by_cases hlt : k < 5
    · obtain ⟨v, hm, hv⟩ := CL.out k hlt
      obtain ⟨pn, pt, p1, p2⟩ := P.out v hm
      have c := hv _ K.out.2.2
      have PP := Lib.hid (And.intro p1 p2)
      clear hv hm p1 p2
      have f1 : (pn != pn) = false := by simp
      have f2 : (pt != pt) = false := by simp
      have i1 : IntKind.i64.wrap ((k : Int) + 1) = ((k + 1 : Nat) : Int) := by simp [IntKind.wrap, IntKind.bits, IntKind.signed]; omega
      go_wp2_with fail
      refine (PP.out.1 _).mono ?_; rintro e v1 ⟨rfl, k1⟩
      go_wp2_with fail
      refine (PP.out.2 _).mono ?_; rintro e w' ⟨rfl, rfl⟩
      go_wp2_with fail
      go_roundg (5 - (k + 1))
      case rel => exact ⟨k + 1, by omega, rfl, by first | rfl | go_num, grown_trans K.out.2.2 k1⟩
      case measure => have := K.out.2.1; omega
    · obtain rfl : k = 5 := by have := K.out.1; omega
      go_wp2_with fail
      go_ret
      exact ⟨rfl, grown_trans GL.out K.out.2.2⟩
end Go.Proofs.Ytdeljahpbanecaa
