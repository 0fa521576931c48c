import Derived.Test.YtlohilpeidmemaaDoorLf
namespace Go.Proofs.YtlohilpeidmemaaDoor
open Go.RowKit
set_option linter.unusedVariables false
set_option linter.unusedSimpArgs false
/-- An instruction in a block. -/
def XW (w W : World) (P : Nat) (o a b c m : Int) : Prop := W.heap[P]? = some (Obj.cells #[.int .i64 o, .int .i64 a, .int .i64 b, .int .i64 c, .int .i32 m] 23) ∧ Below w.heap.size w W
theorem XW.on {w W W' : World} {P : Nat} {o a b c m : Int} (h : XW w W P o a b c m) (hb : Below W.heap.size W W') : XW w W' P o a b c m :=
  ⟨(hb.block _ (Array.getElem?_eq_some_iff.1 h.1).1).trans h.1, h.2.trans (hb.mono h.2.size)⟩
theorem XW.cells {w W : World} {P : Nat} {o a b c m : Int} (h : XW w W P o a b c m) :
    W.cell? ⟨P, 0, none⟩ = some (.int .i64 o) ∧ W.cell? ⟨P, 1, none⟩ = some (.int .i64 a) ∧ W.cell? ⟨P, 2, none⟩ = some (.int .i64 b) ∧ W.cell? ⟨P, 3, none⟩ = some (.int .i64 c) ∧ W.cell? ⟨P, 4, none⟩ = some (.int .i32 m) :=
  ⟨cell_of_row _ _ 0 _ 23 (0, 0) h.1, cell_of_row _ _ 1 _ 23 (0, 0) h.1, cell_of_row _ _ 2 _ 23 (0, 0) h.1, cell_of_row _ _ 3 _ 23 (0, 0) h.1, cell_of_row _ _ 4 _ 23 (0, 0) h.1⟩
theorem XW.start (w : World) (o a b c m : Int) : XW w (w.alloc (Obj.cells #[.int .i64 o, .int .i64 a, .int .i64 b, .int .i64 c, .int .i32 m] 23)) w.heap.size o a b c m :=
  ⟨heap_alloc_new w _, (Below.refl w.heap.size w).alloc (Nat.le_refl _) _⟩
theorem XW.new {w W : World} (o a b c m : Int) (h : Below w.heap.size w W) : XW w (W.alloc (Obj.cells #[.int .i64 o, .int .i64 a, .int .i64 b, .int .i64 c, .int .i32 m] 23)) W.heap.size o a b c m :=
  ⟨heap_alloc_new W _, h.alloc h.size _⟩
theorem calls_fix {args : Array Value} {f : FuncId} {wc : World} {v : Value} (C : ∀ W, Calls Tryd.prog f args W fun e w' => e = .returned v ∧ Below W.heap.size W w') (d : Nat) (os : Array Obj) :
    Calls Tryd.prog f args (Sort.grow (redrawn wc d) os) fun e w'' => e = .returned v ∧ ∃ p : Regrown, w'' = Sort.grow (redrawn wc p.d) p.os := Calls.regrown_of (C _)
set_option maxHeartbeats 4000000 in
theorem back_wrong (o a b c m : Int) (w : World) (hR : ¬ Isa.Right o a b c) (hL : LaidP w) :
    Calls Tryd.prog 3 #[.agg #[.int .i64 o, .int .i64 a, .int .i64 b, .int .i64 c, .int .i32 m]] w fun e w' => e = .returned (.bool true) ∧ Below w.heap.size w w' := by
  have HL := Lib.hid hL
  have C0 := Lib.hid (fun (W : World) (h : Laid W) => fit_any W h)
  have C1 := Lib.hid (fun (W : World) => right_any o a b c m W)
  have C2 := Lib.hid (fun (W : World) => lright_any o a b c m W)
  have C3 := Lib.hid (fun (W : World) => text_wrong o a b c m W hR)
  rw [decide_eq_false hR] at C1 C2
  have HX := Lib.hid (XW.start w o a b c m)
  clear hL hR
  go_enter Tryd.func3, Tryd.ntmps3
  go_wp2_with fail
  refine (C0.out _ (HL.out.on HX.out.2).1).mono ?_
  rintro e w1 ⟨rfl, hb⟩
  have HX1 := Lib.hid (HX.out.on hb)
  clear hb HX C0
  obtain ⟨p0, p1, p2, p3, p4⟩ := HX1.out.cells
  have r0 := cell_regrown p0
  have r1 := cell_regrown p1
  have r2 := cell_regrown p2
  have r3 := cell_regrown p3
  have r4 := cell_regrown p4
  have Q1 := Lib.hid (fun d os => calls_fix (wc := w1) C1.out d os)
  have Q2 := Lib.hid (fun d os => calls_fix (wc := w1) C2.out d os)
  clear p0 p1 p2 p3 p4
  go_wp2_with fail
  refine wp_region_quiet_below (by kernel_rfl) (by kernel_rfl) ?_
  repeat (quiet_step (first | with_reducible exact Q1.out _ _ | with_reducible exact Q2.out _ _))
  refine wpQuiet_nil ?_
  intro _ hw'
  obtain ⟨⟨dq, osq⟩, hw''⟩ := hw'
  have HX2 := Lib.hid (HX1.out.on (below_regrown w1 dq osq))
  rw [← hw''] at HX2
  clear hw'' r0 r1 r2 r3 r4 Q1 Q2 HX1
  obtain ⟨p0, p1, p2, p3, p4⟩ := HX2.out.cells
  go_wp2_with fail
  refine (C2.out _).mono ?_
  rintro e w3 ⟨rfl, hb⟩
  have HX3 := Lib.hid (HX2.out.on hb)
  clear hb HX2 p0 p1 p2 p3 p4
  obtain ⟨p0, p1, p2, p3, p4⟩ := HX3.out.cells
  go_wp2_with fail
  refine (C3.out _).mono ?_
  rintro e w4 ⟨rfl, hb⟩
  have HX4 := Lib.hid (HX3.out.on hb)
  have h63 : (S [63]).toList = [63] := by rw [S_toList]
  clear hb HX3 p0 p1 p2 p3 p4
  go_wp2_with fail
  go_ret
  exact ⟨by first | rfl | simp, HX4.out.2⟩
end Go.Proofs.YtlohilpeidmemaaDoor
