import Derived.Test.YtlohilpeidmemaaDoorAi
namespace Go.Proofs.YtlohilpeidmemaaDoor
open Go.RowKit
set_option linter.unusedVariables false
set_option linter.unusedSimpArgs false

set_option maxHeartbeats 2000000 in
theorem texts_law (l : List UInt8) (w : World) (hl : (S l).size ≤ maxLen) (hL : LaidP w) :
    Calls Tryd.prog 5 #[.string (S l)] w fun e w' => e = .returned (.bool true) ∧ Below w.heap.size w w' := by
  have HL := Lib.hid hL
  have C0 := Lib.hid (fit_any w hL.1)
  clear hL
  unfold maxLen at hl
  by_cases hs : 200 < (S l).size
  · go_enter Tryd.func5, Tryd.ntmps5
    go_wp2_with fail
    refine C0.out.mono ?_
    rintro e w1 ⟨rfl, hb⟩
    have HB := Lib.hid hb
    clear hb C0
    go_wp2_with fail
    go_ret
    exact ⟨rfl, HB.out⟩
  · have hle : l.length ≤ 1000 := by rw [S_size] at hs; omega
    have C1 := Lib.hid (fun (W : World) (h : LaidP W) => parse_any l hle W h)
    clear hle
    go_enter Tryd.func5, Tryd.ntmps5
    go_wp2_with fail
    refine C0.out.mono ?_
    rintro e w1 ⟨rfl, hb⟩
    have HB := Lib.hid hb
    clear hb C0
    go_wp2_with fail
    refine (C1.out _ (HL.out.on HB.out)).mono ?_
    rintro e w2 ⟨r, F, ok, hop, hF, hok, rfl, hb⟩
    have HB2 := Lib.hid (HB.out.trans (hb.mono HB.out.size))
    have HFO := Lib.hid (show F.Ok by rw [hF]; exact Isa.fold_ok _ 0 _ (by refine ⟨?_, ?_, ?_, ?_⟩ <;> exact ⟨by decide, by decide⟩))
    clear hb HB C1 hop hF
    have L2 := Lib.hid (HL.out.on HB2.out)
    cases ok
    · clear hok
      rw [if_neg (by decide)]
      unfold zeroV
      have HB3 := Lib.hid (fun o => HB2.out.alloc HB2.out.size o)
      go_wp2_with fail
      go_ret
      exact ⟨by trace_state; rfl, HB3.out _⟩
    · have hh := of_decide_eq_true hok.symm
      rw [if_pos rfl]
      have C2 := Lib.hid (fun (W : World) => lright_any r F.a F.b F.c F.m W)
      rw [decide_eq_true hh.1] at C2
      have C3 := Lib.hid (fun (W : World) (h : LaidP W) => text_right r F.a F.b F.c F.m W hh.1 HFO.out.2.2.2 h.1)
      rw [hh.2] at C3
      clear hok hh
      have HB3 := Lib.hid (HB2.out.alloc HB2.out.size (Obj.cells #[.int .i64 r, .int .i64 F.a, .int .i64 F.b, .int .i64 F.c, .int .i32 F.m] 23))
      have HX := Lib.hid (heap_alloc_new w2 (Obj.cells #[.int .i64 r, .int .i64 F.a, .int .i64 F.b, .int .i64 F.c, .int .i32 F.m] 23))
      go_wp2_with fail
      refine (C2.out _).mono ?_
      rintro e w3 ⟨rfl, hb⟩
      have HB4 := Lib.hid (HB3.out.trans (hb.mono HB3.out.size))
      have hx := (hb.block _ (Array.getElem?_eq_some_iff.1 HX.out).1).trans HX.out
      have p0 := cell_of_row _ _ 0 _ 23 (0, 0) hx
      have p1 := cell_of_row _ _ 1 _ 23 (0, 0) hx
      have p2 := cell_of_row _ _ 2 _ 23 (0, 0) hx
      have p3 := cell_of_row _ _ 3 _ 23 (0, 0) hx
      have p4 := cell_of_row _ _ 4 _ 23 (0, 0) hx
      simp only [List.getElem?_toArray, List.getElem?_cons_zero, List.getElem?_cons_succ] at p0 p1 p2 p3 p4
      clear hb hx HX C2 HB3
      go_wp2_with fail
      refine (C3.out _ (HL.out.on HB4.out)).mono ?_
      rintro e w5 ⟨rfl, hb⟩
      have HB5 := Lib.hid (HB4.out.trans (hb.mono HB4.out.size))
      clear hb C3 p0 p1 p2 p3 p4
      go_wp2_with fail
      go_ret
      exact ⟨by simp, HB5.out⟩
end Go.Proofs.YtlohilpeidmemaaDoor
