import Derived.Test.YtlohilpeidmemaaDoorAe
import Derived.Lib.QuietBelow
import Derived.Deep.QuietTactic
import Derived.IntWalk
namespace Go.Proofs.YtlohilpeidmemaaDoor
open Go.RowKit
set_option linter.unusedVariables false
set_option linter.unusedSimpArgs false

/-- What the package variables hold that a text is made of. -/
def Laid (W : World) : Prop := Lib.TabIs Tryd.prog W "internal/strconv.uint64pow10" .u64 Lib.pow10Tab ∧ (∀ i : Nat, i < 44 → W.cell? ⟨0, i, none⟩ = some (.string (S (Isa.names.getD i []))))
theorem tabG : Tryd.prog.globalNamed "internal/strconv.uint64pow10" = some 4 := by kernel_rfl
theorem Laid.on {W W' : World} (h : Laid W) (hb : Below W.heap.size W W') : Laid W' :=
  ⟨Go.Joins.tab_stays tabG h.1 hb (Nat.le_refl _), fun i hi => by rw [hb.cell (p := ⟨0, i, none⟩) (block_lt_of_cell (h.2 i hi))]; exact h.2 i hi⟩
theorem Laid.nm {W : World} (h : Laid W) {o : Int} (ho : 1 ≤ o ∧ o ≤ 43) : W.cell? ⟨0, o.toNat, none⟩ = some (.string (S (Isa.nm o))) := h.2 o.toNat (by omega)
theorem nm_len (o : Int) : (Isa.nm o).length ≤ 10 := by
  by_cases h : o.toNat < 44
  · exact (show ∀ i : Fin 44, (Isa.names.getD i.val []).length ≤ 10 from by decide +kernel) ⟨o.toNat, h⟩
  · unfold Isa.nm
    rw [List.getD_eq_getElem?_getD, List.getElem?_eq_none (by show 44 ≤ _; omega)]
    simp
theorem reg_len (n : Int) (h : 0 ≤ n ∧ n < 16) : (Isa.reg n).length ≤ 30 := by
  unfold Isa.reg
  have := Lib.itoa_length_le n (by omega) (by omega)
  simp
  omega
theorem str_ret {l m : List UInt8} (h : l = m) : Ending.returned (.string (S l)) = .returned (.string (S m)) := by rw [h]
/-- The text of an instruction, whatever it is. -/
def text (o a b c m : Int) : List UInt8 := if Isa.Right o a b c then Isa.txt o a b c m else [63]
set_option maxHeartbeats 4000000 in
theorem text_right (o a b c m : Int) (w : World) (hr : Isa.Right o a b c) (hm : -2147483648 ≤ m ∧ m ≤ 2147483647) (hL : Laid w) :
    Calls Tryd.prog 11 #[.agg #[.int .i64 o, .int .i64 a, .int .i64 b, .int .i64 c, .int .i32 m]] w fun e w' => e = .returned (.string (S (Isa.txt o a b c m))) ∧ Below w.heap.size w w' := by
  have C := Lib.hid (fun (W : World) => right_any o a b c m W)
  rw [decide_eq_true hr] at C
  have ha : 0 ≤ a ∧ a < 16 := ⟨hr.2.2.1, hr.2.2.2.1⟩
  have hb : 0 ≤ b ∧ b < 16 := ⟨hr.2.2.2.2.1, hr.2.2.2.2.2.1⟩
  have hc : 0 ≤ c ∧ c < 16 := hr.2.2.2.2.2.2
  have l0 := nm_len o
  have l1 := reg_len a ha
  have l2 := reg_len b hb
  have l3 := reg_len c hc
  have l4 := Lib.itoa_length_le m (by omega) (by omega)
  have A1 := add_c (Isa.nm o) (Isa.reg a) (by omega)
  have A2 := add_c (Isa.nm o ++ Isa.reg a) (Isa.reg b) (by simp only [List.length_append]; omega)
  have A3 := add_c (Isa.nm o ++ Isa.reg a ++ Isa.reg b) (Isa.reg c) (by simp only [List.length_append]; omega)
  have A4 : ∀ w, (Op.stringOp .add (S (Isa.nm o ++ Isa.reg a ++ Isa.reg b ++ Isa.reg c)) { data := #[32] }).run Tryd.prog w = .ok (.string (S (Isa.nm o ++ Isa.reg a ++ Isa.reg b ++ Isa.reg c ++ [32]))) w :=
    add_c (Isa.nm o ++ Isa.reg a ++ Isa.reg b ++ Isa.reg c) [32] (by simp only [List.length_append, List.length_cons, List.length_nil]; omega)
  have A5 : ∀ w, (Op.stringOp .add (S (Isa.nm o ++ Isa.reg a ++ Isa.reg b ++ Isa.reg c ++ [32])) (S (Lib.itoa m))).run Tryd.prog w = .ok (.string (S (Isa.txt o a b c m))) w :=
    add_c (Isa.nm o ++ Isa.reg a ++ Isa.reg b ++ Isa.reg c ++ [32]) (Lib.itoa m) (by simp only [List.length_append, List.length_cons, List.length_nil]; omega)
  have ho : 1 ≤ o ∧ o ≤ 43 := ⟨hr.1, hr.2.1⟩
  have CN := Lib.hid (fun (W : World) (h : Laid W) => h.nm ho)
  obtain ⟨k, rfl⟩ : ∃ k : Nat, o = k := ⟨o.toNat, by omega⟩
  have hk1 : k < 44 := by omega
  have hk2 : (k : Int) < 44 := by omega
  have hk3 : (0 : Int) ≤ k := by omega
  have CR1 := Lib.hid (fun (W : World) => reg_any a W ha)
  have CR2 := Lib.hid (fun (W : World) => reg_any b W hb)
  have CR3 := Lib.hid (fun (W : World) => reg_any c W hc)
  have CI := Lib.hid (fun (W : World) (h : Laid W) => itoa_c m (by omega) (by omega) W h.1)
  have HW := Lib.hid (show IntKind.i64.wrap m = m from IntWalk.i64_in _ (by omega))
  obtain ⟨t0, e0⟩ : ∃ t, Isa.nm (k : Int) = t := ⟨_, rfl⟩
  obtain ⟨t1, e1⟩ : ∃ t, Isa.reg a = t := ⟨_, rfl⟩
  obtain ⟨t2, e2⟩ : ∃ t, Isa.reg b = t := ⟨_, rfl⟩
  obtain ⟨t3, e3⟩ : ∃ t, Isa.reg c = t := ⟨_, rfl⟩
  obtain ⟨t4, e4⟩ : ∃ t, Lib.itoa m = t := ⟨_, rfl⟩
  obtain ⟨t, e5⟩ : ∃ t, Isa.txt (k : Int) a b c m = t := ⟨_, rfl⟩
  obtain ⟨u1, f1⟩ : ∃ t, Isa.nm (k : Int) ++ Isa.reg a = t := ⟨_, rfl⟩
  obtain ⟨u2, f2⟩ : ∃ t, u1 ++ Isa.reg b = t := ⟨_, rfl⟩
  obtain ⟨u3, f3⟩ : ∃ t, u2 ++ Isa.reg c = t := ⟨_, rfl⟩
  obtain ⟨u4, f4⟩ : ∃ t, u3 ++ [32] = t := ⟨_, rfl⟩
  rw [f1, e0, e1] at A1
  rw [f1, f2, e2] at A2
  rw [f1, f2, f3, e3] at A3
  rw [f1, f2, f3, f4] at A4
  rw [f1, f2, f3, f4, e4, e5] at A5
  rw [e0] at CN
  rw [e1] at CR1
  rw [e2] at CR2
  rw [e3] at CR3
  rw [e4] at CI
  rw [e5]
  have HL := Lib.hid hL
  clear hr hm ha hb hc l0 l1 l2 l3 l4 ho hL e0 e1 e2 e3 e4 e5 f1 f2 f3 f4
  go_enter Tryd.func11, Tryd.ntmps11
  go_wp2_with fail
  refine (C.out _).mono ?_
  rintro e w1 ⟨rfl, hb⟩
  have HB := Lib.hid (below_new hb)
  have k0 : w1.cell? ⟨w.heap.size, 0, none⟩ = some (.int .i64 k) := kept_new hb 0
  have k1 : w1.cell? ⟨w.heap.size, 1, none⟩ = some (.int .i64 a) := kept_new hb 1
  have k2 : w1.cell? ⟨w.heap.size, 2, none⟩ = some (.int .i64 b) := kept_new hb 2
  have k3 : w1.cell? ⟨w.heap.size, 3, none⟩ = some (.int .i64 c) := kept_new hb 3
  have k4 : w1.cell? ⟨w.heap.size, 4, none⟩ = some (.int .i32 m) := kept_new hb 4
  have L1 := Lib.hid (HL.out.on HB.out)
  have kn : w1.cell? ⟨0, k, none⟩ = some (.string (S t0)) := CN.out w1 L1.out
  have r0 := cell_regrown k0
  have r1 := cell_regrown k1
  have r2 := cell_regrown k2
  have r3 := cell_regrown k3
  have r4 := cell_regrown k4
  have rn := cell_regrown kn
  have q1 : ∀ d os, Calls Tryd.prog 18 #[.int .i64 a] (Sort.grow (redrawn w1 d) os) fun e w'' => e = .returned (.string (S t1)) ∧ ∃ p : Regrown, w'' = Sort.grow (redrawn w1 p.d) p.os := fun d os => Calls.regrown_of ((CR1.out _).mono fun e w' ⟨h1, h2⟩ => ⟨h1, h2 ▸ Below.refl _ _⟩)
  have q2 : ∀ d os, Calls Tryd.prog 18 #[.int .i64 b] (Sort.grow (redrawn w1 d) os) fun e w'' => e = .returned (.string (S t2)) ∧ ∃ p : Regrown, w'' = Sort.grow (redrawn w1 p.d) p.os := fun d os => Calls.regrown_of ((CR2.out _).mono fun e w' ⟨h1, h2⟩ => ⟨h1, h2 ▸ Below.refl _ _⟩)
  have q3 : ∀ d os, Calls Tryd.prog 18 #[.int .i64 c] (Sort.grow (redrawn w1 d) os) fun e w'' => e = .returned (.string (S t3)) ∧ ∃ p : Regrown, w'' = Sort.grow (redrawn w1 p.d) p.os := fun d os => Calls.regrown_of ((CR3.out _).mono fun e w' ⟨h1, h2⟩ => ⟨h1, h2 ▸ Below.refl _ _⟩)
  have q4 : ∀ d os, Calls Tryd.prog 19 #[.int .i64 m] (Sort.grow (redrawn w1 d) os) fun e w'' => e = .returned (.string (S t4)) ∧ ∃ p : Regrown, w'' = Sort.grow (redrawn w1 p.d) p.os := fun d os => Calls.regrown_of (CI.out _ (L1.out.on (below_regrown w1 d os)))
  have Q1 := Lib.hid q1
  have Q2 := Lib.hid q2
  have Q3 := Lib.hid q3
  have Q4 := Lib.hid q4
  have hw := HW.out
  clear hb k0 k1 k2 k3 k4 kn q1 q2 q3 q4 C CN CR1 CR2 CR3 CI HW
  go_wp2_with fail
  refine wp_region_quiet_below (by kernel_rfl) (by kernel_rfl) ?_
  repeat (quiet_step (first | exact Q1.out _ _ | exact Q2.out _ _ | exact Q3.out _ _ | exact Q4.out _ _))
  refine wpQuiet_nil ?_
  intro _ hw'
  obtain ⟨⟨dq, osq⟩, hw''⟩ := hw'
  subst hw''
  go_wp2
  go_ret
  exact ⟨rfl, HB.out.trans ((below_regrown w1 dq osq).mono HB.out.size)⟩
set_option maxHeartbeats 1000000 in
theorem text_wrong (o a b c m : Int) (w : World) (hr : ¬ Isa.Right o a b c) :
    Calls Tryd.prog 11 #[.agg #[.int .i64 o, .int .i64 a, .int .i64 b, .int .i64 c, .int .i32 m]] w fun e w' => e = .returned (.string (S [63])) ∧ Below w.heap.size w w' := by
  have C := Lib.hid (fun (W : World) => right_any o a b c m W)
  rw [decide_eq_false hr] at C
  clear hr
  go_enter Tryd.func11, Tryd.ntmps11
  go_wp2_with fail
  refine (C.out _).mono ?_
  rintro e w1 ⟨rfl, hb⟩
  have HB := Lib.hid (below_new hb)
  clear hb C
  go_wp2_with fail
  go_ret
  exact ⟨rfl, HB.out⟩
theorem text_any (o a b c m : Int) (w : World) (hm : -2147483648 ≤ m ∧ m ≤ 2147483647) (hL : Laid w) :
    Calls Tryd.prog 11 #[.agg #[.int .i64 o, .int .i64 a, .int .i64 b, .int .i64 c, .int .i32 m]] w fun e w' => e = .returned (.string (S (text o a b c m))) ∧ Below w.heap.size w w' := by
  unfold text
  by_cases hr : Isa.Right o a b c
  · rw [if_pos hr]; exact text_right o a b c m w hr hm hL
  · rw [if_neg hr]; exact text_wrong o a b c m w hr
theorem fit_txt : S (text 18 1 2 0 (-4)) = { data := #[97, 100, 100, 105, 32, 114, 49, 32, 114, 50, 32, 114, 48, 32, 45, 52] } := by
  unfold text
  rw [if_pos (by decide)]
  have e1 : Lib.itoa 1 = [49] := by rw [show (1 : Int) = ((1 : Nat) : Int) from rfl, Lib.itoa_nonneg, Lib.decDigits_one (by decide)]; rfl
  have e2 : Lib.itoa 2 = [50] := by rw [show (2 : Int) = ((2 : Nat) : Int) from rfl, Lib.itoa_nonneg, Lib.decDigits_one (by decide)]; rfl
  have e3 : Lib.itoa 0 = [48] := by rw [show (0 : Int) = ((0 : Nat) : Int) from rfl, Lib.itoa_nonneg, Lib.decDigits_one (by decide)]; rfl
  have e4 : Lib.itoa (-4) = [45, 52] := by rw [show (-4 : Int) = -((4 : Nat) : Int) from rfl, Lib.itoa_neg 4 (by decide), Lib.decDigits_one (by decide)]; rfl
  unfold Isa.txt Isa.reg
  rw [e1, e2, e3, e4]
  rfl
set_option maxHeartbeats 1000000 in
theorem fit_any (w : World) (hL : Laid w) : Calls Tryd.prog 8 #[] w fun e w' => e = .returned (.bool true) ∧ Below w.heap.size w w' := by
  have C1 := Lib.hid (fun (W : World) (h : Laid W) => text_any 18 1 2 0 (-4) W (by decide) h)
  have C2 := Lib.hid (fun (W : World) => right_any 18 1 2 0 (-4) W)
  rw [decide_eq_true (show Isa.Right 18 1 2 0 by decide)] at C2
  rw [fit_txt] at C1
  have HL := Lib.hid hL
  clear hL
  have L1 := Lib.hid (HL.out.on ((Below.refl w.heap.size w).alloc (Nat.le_refl _) (Obj.cells #[.int .i64 18, .int .i64 1, .int .i64 2, .int .i64 0, .int .i32 (-4)] 23)))
  go_enter Tryd.func8, Tryd.ntmps8
  go_wp2_with fail
  refine (C1.out _ L1.out).mono ?_
  rintro e w1 ⟨rfl, hb⟩
  have HB := Lib.hid (below_new hb)
  have k0 : w1.cell? ⟨w.heap.size, 0, none⟩ = some (.int .i64 18) := kept_new hb 0
  have k1 : w1.cell? ⟨w.heap.size, 1, none⟩ = some (.int .i64 1) := kept_new hb 1
  have k2 : w1.cell? ⟨w.heap.size, 2, none⟩ = some (.int .i64 2) := kept_new hb 2
  have k3 : w1.cell? ⟨w.heap.size, 3, none⟩ = some (.int .i64 0) := kept_new hb 3
  have k4 : w1.cell? ⟨w.heap.size, 4, none⟩ = some (.int .i32 (-4)) := kept_new hb 4
  clear hb C1
  go_wp2_with fail
  refine (C2.out _).mono ?_
  rintro e w2 ⟨rfl, hb⟩
  have HB2 := Lib.hid (HB.out.trans (hb.mono HB.out.size))
  clear hb
  go_wp2_with fail
  go_ret
  exact ⟨by first | rfl | simp, HB2.out⟩
end Go.Proofs.YtlohilpeidmemaaDoor
