import Derived.Test.YtlohilpeidmemaaDoorLg
namespace Go.Proofs.YtlohilpeidmemaaDoor
open Go.RowKit
set_option linter.unusedVariables false
set_option linter.unusedSimpArgs false
/-- Decode takes an instruction's bytes back. -/
theorem decode_enc (x0 x1 x2 x3 : Nat) (m : Int) (h : Isa.Right x0 x1 x2 x3) (hm : -2147483648 ≤ m ∧ m ≤ 2147483647) (g : Nat) (w : World) (hr : BR w (some ⟨g, 0, none⟩) (Isa.enc x0 x1 x2 x3 m)) :
    Calls Tryd.prog 13 #[.slice (some ⟨g, 0, none⟩) 8 8] w fun e w' => e = .returned (.tuple #[.agg #[.int .i64 x0, .int .i64 x1, .int .i64 x2, .int .i64 x3, .int .i32 m], .bool true]) ∧ Below w.heap.size w w' := by
  obtain ⟨r1, r2, r3, r4, r5, r6, r7, r8⟩ := id h
  have e0 : ((x0 : Int) % 256).toNat = x0 := by omega
  have e1 : ((x1 : Int) % 256).toNat = x1 := by omega
  have e2 : ((x2 : Int) % 256).toNat = x2 := by omega
  have e3 : ((x3 : Int) % 256).toNat = x3 := by omega
  have hb := byte_enc x0 x1 x2 x3 m
  unfold Isa.enc at hr hb
  rw [e0, e1, e2, e3] at hr hb
  exact decode_in g 0 8 x0 x1 x2 x3 _ _ _ _ w (Nat.le_refl _) hr hb m (im_enc hm) true (decide_eq_true h) _ rfl
set_option maxHeartbeats 8000000 in
theorem back_right (x0 x1 x2 x3 : Nat) (m : Int) (w : World) (hR : Isa.Right x0 x1 x2 x3) (hm : -2147483648 ≤ m ∧ m ≤ 2147483647) (hL : LaidP w) :
    Calls Tryd.prog 3 #[.agg #[.int .i64 x0, .int .i64 x1, .int .i64 x2, .int .i64 x3, .int .i32 m]] w fun e w' => e = .returned (.bool true) ∧ Below w.heap.size w w' := by
  have HL := Lib.hid hL
  have C0 := Lib.hid (fun (W : World) (h : Laid W) => fit_any W h)
  have C1 := Lib.hid (fun (W : World) => right_any x0 x1 x2 x3 m W)
  have C2 := Lib.hid (fun (W : World) => lright_any x0 x1 x2 x3 m W)
  have C3 := Lib.hid (fun (W : World) (h : Laid W) => text_right x0 x1 x2 x3 m W hR hm h)
  have C4 := Lib.hid (fun (W : World) => encode_any x0 x1 x2 x3 m W)
  have C5 := Lib.hid (fun (W : World) (g : Nat) (h : BR W (some ⟨g, 0, none⟩) (Isa.enc x0 x1 x2 x3 m)) => decode_enc x0 x1 x2 x3 m hR hm g W h)
  have C6 := Lib.hid (fun (W : World) (h : LaidP W) => parse_text x0 x1 x2 x3 m hR hm W h)
  have C7 := Lib.hid (fun (W : World) => name_any (x0 : Int) W)
  have C8 := Lib.hid (fun (W : World) => digits_nat x1 (by have := hR.2.2.2.1; omega) W)
  have C9 := Lib.hid (fun (W : World) => digits_nat x2 (by have := hR.2.2.2.2.2.1; omega) W)
  have C10 := Lib.hid (fun (W : World) => digits_nat x3 (by have := hR.2.2.2.2.2.2.2; omega) W)
  have C11 := Lib.hid (fun (W : World) => digits_i32 m hm W)
  rw [decide_eq_true hR] at C1 C2
  have HX := Lib.hid (XW.start w x0 x1 x2 x3 m)
  have l0 := nm_len (x0 : Int)
  have l1 := itoa_len x1 (by have := hR.2.2.2.1; omega)
  have l2 := itoa_len x2 (by have := hR.2.2.2.2.2.1; omega)
  have l3 := itoa_len x3 (by have := hR.2.2.2.2.2.2.2; omega)
  have l4 := Lib.itoa_length_le m (by omega) (by omega)
  have ET : Isa.nm (x0 : Int) ++ [32, 114] ++ Lib.itoa (x1 : Int) ++ [32, 114] ++ Lib.itoa (x2 : Int) ++ [32, 114] ++ Lib.itoa (x3 : Int) ++ [32] ++ Lib.itoa m = Isa.txt x0 x1 x2 x3 m := by
    unfold Isa.txt Isa.reg
    simp only [List.append_assoc]
  obtain ⟨tx, et⟩ : ∃ t, Isa.txt (x0 : Int) x1 x2 x3 m = t := ⟨_, rfl⟩
  obtain ⟨t0, e0⟩ : ∃ t, Isa.nm (x0 : Int) = t := ⟨_, rfl⟩
  obtain ⟨t1, e1⟩ : ∃ t, Lib.itoa (x1 : Int) = t := ⟨_, rfl⟩
  obtain ⟨t2, e2⟩ : ∃ t, Lib.itoa (x2 : Int) = t := ⟨_, rfl⟩
  obtain ⟨t3, e3⟩ : ∃ t, Lib.itoa (x3 : Int) = t := ⟨_, rfl⟩
  obtain ⟨t4, e4⟩ : ∃ t, Lib.itoa m = t := ⟨_, rfl⟩
  rw [et] at C3 C6 ET
  rw [e0] at C7 ET l0
  rw [e1] at C8 ET l1
  rw [e2] at C9 ET l2
  rw [e3] at C10 ET l3
  rw [e4] at C11 ET l4
  have hR2 := Lib.hid hR
  clear hL hR et e0 e1 e2 e3 e4
  obtain ⟨u1, f1⟩ : ∃ u, t0 ++ [32, 114] = u := ⟨_, rfl⟩
  have A1 : ∀ w, (Op.stringOp .add (S t0) { data := #[32, 114] }).run Tryd.prog w = .ok (.string (S u1)) w := by
    rw [← f1]; exact add_c t0 [32, 114] (by simp only [List.length_cons, List.length_nil]; omega)
  have k1 : u1.length ≤ 100 := by rw [← f1]; simp only [List.length_append, List.length_cons, List.length_nil]; omega
  rw [f1] at ET
  obtain ⟨u2, f2⟩ : ∃ u, u1 ++ t1 = u := ⟨_, rfl⟩
  have A2 : ∀ w, (Op.stringOp .add (S u1) (S t1)).run Tryd.prog w = .ok (.string (S u2)) w := by
    rw [← f2]; exact add_c u1 t1 (by omega)
  have k2 : u2.length ≤ 200 := by rw [← f2]; simp only [List.length_append]; omega
  rw [f2] at ET
  obtain ⟨u3, f3⟩ : ∃ u, u2 ++ [32, 114] = u := ⟨_, rfl⟩
  have A3 : ∀ w, (Op.stringOp .add (S u2) { data := #[32, 114] }).run Tryd.prog w = .ok (.string (S u3)) w := by
    rw [← f3]; exact add_c u2 [32, 114] (by simp only [List.length_cons, List.length_nil]; omega)
  have k3 : u3.length ≤ 300 := by rw [← f3]; simp only [List.length_append, List.length_cons, List.length_nil]; omega
  rw [f3] at ET
  obtain ⟨u4, f4⟩ : ∃ u, u3 ++ t2 = u := ⟨_, rfl⟩
  have A4 : ∀ w, (Op.stringOp .add (S u3) (S t2)).run Tryd.prog w = .ok (.string (S u4)) w := by
    rw [← f4]; exact add_c u3 t2 (by omega)
  have k4 : u4.length ≤ 400 := by rw [← f4]; simp only [List.length_append]; omega
  rw [f4] at ET
  obtain ⟨u5, f5⟩ : ∃ u, u4 ++ [32, 114] = u := ⟨_, rfl⟩
  have A5 : ∀ w, (Op.stringOp .add (S u4) { data := #[32, 114] }).run Tryd.prog w = .ok (.string (S u5)) w := by
    rw [← f5]; exact add_c u4 [32, 114] (by simp only [List.length_cons, List.length_nil]; omega)
  have k5 : u5.length ≤ 500 := by rw [← f5]; simp only [List.length_append, List.length_cons, List.length_nil]; omega
  rw [f5] at ET
  obtain ⟨u6, f6⟩ : ∃ u, u5 ++ t3 = u := ⟨_, rfl⟩
  have A6 : ∀ w, (Op.stringOp .add (S u5) (S t3)).run Tryd.prog w = .ok (.string (S u6)) w := by
    rw [← f6]; exact add_c u5 t3 (by omega)
  have k6 : u6.length ≤ 600 := by rw [← f6]; simp only [List.length_append]; omega
  rw [f6] at ET
  obtain ⟨u7, f7⟩ : ∃ u, u6 ++ [32] = u := ⟨_, rfl⟩
  have A7 : ∀ w, (Op.stringOp .add (S u6) { data := #[32] }).run Tryd.prog w = .ok (.string (S u7)) w := by
    rw [← f7]; exact add_c u6 [32] (by simp only [List.length_cons, List.length_nil]; omega)
  have k7 : u7.length ≤ 700 := by rw [← f7]; simp only [List.length_append, List.length_cons, List.length_nil]; omega
  rw [f7] at ET
  have A8 : ∀ w, (Op.stringOp .add (S u7) (S t4)).run Tryd.prog w = .ok (.string (S tx)) w := by
    rw [← ET]; exact add_c u7 t4 (by omega)
  have HM := Lib.hid (show IntKind.i64.wrap m = m from IntWalk.i64_in _ (by omega))
  have HAA := Lib.hid (And.intro A1 (And.intro A2 (And.intro A3 (And.intro A4 (And.intro A5 (And.intro A6 (And.intro A7 A8)))))))
  clear A1 A2 A3 A4 A5 A6 A7 A8 k1 k2 k3 k4 k5 k6 k7 f1 f2 f3 f4 f5 f6 f7 l0 l1 l2 l3 l4 ET hm
  go_enter Tryd.func3, Tryd.ntmps3
  go_wp2_with fail
  refine (C0.out _ (HL.out.on HX.out.2).1).mono ?_
  rintro e w1 ⟨rfl, hb⟩
  have HX1 := Lib.hid (HX.out.on hb)
  clear hb HX C0
  obtain ⟨p0, p1, p2, p3, p4⟩ := HX1.out.cells
  have r0 := cell_regrown p0
  have r1 := cell_regrown p1
  have r2 := cell_regrown p2
  have r3 := cell_regrown p3
  have r4 := cell_regrown p4
  have Q1 := Lib.hid (fun d os => calls_fix (wc := w1) C1.out d os)
  have Q2 := Lib.hid (fun d os => calls_fix (wc := w1) C2.out d os)
  clear p0 p1 p2 p3 p4
  go_wp2_with fail
  refine wp_region_quiet_below (by kernel_rfl) (by kernel_rfl) ?_
  repeat (quiet_step (first | with_reducible exact Q1.out _ _ | with_reducible exact Q2.out _ _))
  refine wpQuiet_nil ?_
  intro _ hw'
  obtain ⟨⟨dq, osq⟩, hw''⟩ := hw'
  have HX2 := Lib.hid (HX1.out.on (below_regrown w1 dq osq))
  rw [← hw''] at HX2
  clear hw'' r0 r1 r2 r3 r4 Q1 Q2 HX1 C1
  obtain ⟨p0, p1, p2, p3, p4⟩ := HX2.out.cells
  go_wp2_with fail
  refine (C2.out _).mono ?_
  rintro e w3 ⟨rfl, hb⟩
  have HX3 := Lib.hid (HX2.out.on hb)
  clear hb HX2 C2 p0 p1 p2 p3 p4
  obtain ⟨p0, p1, p2, p3, p4⟩ := HX3.out.cells
  go_wp2_with fail
  refine (C4.out _).mono ?_
  rintro e w4 ⟨g, rfl, hbr, hb⟩
  have HX4 := Lib.hid (HX3.out.on hb)
  have C5' := Lib.hid (C5.out _ g hbr)
  clear hb hbr HX3 C4 C5 p0 p1 p2 p3 p4
  go_wp2_with fail
  refine C5'.out.mono ?_
  rintro e w5 ⟨rfl, hb⟩
  have HX5 := Lib.hid (HX4.out.on hb)
  clear hb HX4 C5'
  have HY := Lib.hid (XW.new x0 x1 x2 x3 m HX5.out.2)
  have HX6 := Lib.hid (HX5.out.on ((Below.refl w5.heap.size w5).alloc (Nat.le_refl _) (Obj.cells #[.int .i64 x0, .int .i64 x1, .int .i64 x2, .int .i64 x3, .int .i32 m] 23)))
  obtain ⟨p0, p1, p2, p3, p4⟩ := HX6.out.cells
  clear HX5
  go_wp2_with fail
  refine (C3.out _ (HL.out.on HX6.out.2).1).mono ?_
  rintro e w6 ⟨rfl, hb⟩
  have HX7 := Lib.hid (HX6.out.on hb)
  have HY7 := Lib.hid (HY.out.on hb)
  clear hb HX6 HY p0 p1 p2 p3 p4
  go_wp2_with fail
  refine (C6.out _ (HL.out.on HX7.out.2)).mono ?_
  rintro e w7 ⟨rfl, hb⟩
  have HX8 := Lib.hid (HX7.out.on hb)
  have HY8 := Lib.hid (HY7.out.on hb)
  clear hb HX7 HY7 C6
  have HZ := Lib.hid (XW.new x0 x1 x2 x3 m HX8.out.2)
  have hstep := Lib.hid ((Below.refl w7.heap.size w7).alloc (Nat.le_refl _) (Obj.cells #[.int .i64 x0, .int .i64 x1, .int .i64 x2, .int .i64 x3, .int .i32 m] 23))
  have HX9 := Lib.hid (HX8.out.on hstep.out)
  have HY9 := Lib.hid (HY8.out.on hstep.out)
  clear hstep HX8 HY8
  go_upto_region 10 with fail
  obtain ⟨X, eX⟩ : ∃ X, w.heap.size = X := ⟨_, rfl⟩
  obtain ⟨Y, eY⟩ : ∃ Y, w5.heap.size = Y := ⟨_, rfl⟩
  obtain ⟨Z, eZ⟩ : ∃ Z, w7.heap.size = Z := ⟨_, rfl⟩
  obtain ⟨wc, ec⟩ : ∃ wc, w7.alloc (Obj.cells #[.int .i64 x0, .int .i64 x1, .int .i64 x2, .int .i64 x3, .int .i32 m] 23) = wc := ⟨_, rfl⟩
  rw [ec] at HX9 HY9 HZ
  rw [ec]
  clear ec
  obtain ⟨p0, p1, p2, p3, p4⟩ := HX9.out.cells
  obtain ⟨q0, q1, q2, q3, q4⟩ := HY9.out.cells
  obtain ⟨s0, s1, s2, s3, s4⟩ := HZ.out.cells
  have rp0 := cell_regrown p0
  have rp1 := cell_regrown p1
  have rp2 := cell_regrown p2
  have rp3 := cell_regrown p3
  have rp4 := cell_regrown p4
  have rq0 := cell_regrown q0
  have rq1 := cell_regrown q1
  have rq2 := cell_regrown q2
  have rq3 := cell_regrown q3
  have rq4 := cell_regrown q4
  have rs0 := cell_regrown s0
  have rs1 := cell_regrown s1
  have rs2 := cell_regrown s2
  have rs3 := cell_regrown s3
  have rs4 := cell_regrown s4
  clear p0 p1 p2 p3 p4 q0 q1 q2 q3 q4 s0 s1 s2 s3 s4
  have Q3 := Lib.hid (show ∀ d os, Calls Tryd.prog 11 #[.agg #[.int .i64 x0, .int .i64 x1, .int .i64 x2, .int .i64 x3, .int .i32 m]] (Sort.grow (redrawn wc d) os) fun e w'' => e = .returned (.string (S tx)) ∧ ∃ p : Regrown, w'' = Sort.grow (redrawn wc p.d) p.os from fun d os => Calls.regrown_of (C3.out _ (HL.out.on (HX9.out.on (below_regrown wc d os)).2).1))
  have Q7 := Lib.hid (fun d os => calls_fix (wc := wc) C7.out d os)
  have Q8 := Lib.hid (fun d os => calls_fix (wc := wc) C8.out d os)
  have Q9 := Lib.hid (fun d os => calls_fix (wc := wc) C9.out d os)
  have Q10 := Lib.hid (fun d os => calls_fix (wc := wc) C10.out d os)
  have Q11 := Lib.hid (fun d os => calls_fix (wc := wc) C11.out d os)
  obtain ⟨A1, A2, A3, A4, A5, A6, A7, A8⟩ := HAA.out
  have hmm := HM.out
  clear C3 C7 C8 C9 C10 C11 HAA HM HY9 HZ eX eY eZ
  refine wp_region_quiet_below (by kernel_rfl) (by kernel_rfl) ?_
  repeat (quiet_step (first | with_reducible exact Q3.out _ _ | with_reducible exact Q7.out _ _ | with_reducible exact Q8.out _ _ | with_reducible exact Q9.out _ _ | with_reducible exact Q10.out _ _ | with_reducible exact Q11.out _ _))
  refine wpQuiet_nil ?_
  intro _ hw'
  obtain ⟨⟨dq, osq⟩, hw''⟩ := hw'
  have HE := Lib.hid (HX9.out.on (below_regrown wc dq osq)).2
  rw [← hw''] at HE
  clear hw''
  go_wp2
  go_ret
  exact ⟨ret_true (by first | rfl | simp), HE.out⟩
theorem back_law (o a b c m : Int) (w : World) (hm : -2147483648 ≤ m ∧ m ≤ 2147483647) (hL : LaidP w) :
    Calls Tryd.prog 3 #[.agg #[.int .i64 o, .int .i64 a, .int .i64 b, .int .i64 c, .int .i32 m]] w fun e w' => e = .returned (.bool true) ∧ Below w.heap.size w w' := by
  by_cases hR : Isa.Right o a b c
  · obtain ⟨r1, r2, r3, r4, r5, r6, r7, r8⟩ := id hR
    obtain ⟨x0, rfl⟩ : ∃ x : Nat, o = x := ⟨o.toNat, by omega⟩
    obtain ⟨x1, rfl⟩ : ∃ x : Nat, a = x := ⟨a.toNat, by omega⟩
    obtain ⟨x2, rfl⟩ : ∃ x : Nat, b = x := ⟨b.toNat, by omega⟩
    obtain ⟨x3, rfl⟩ : ∃ x : Nat, c = x := ⟨c.toNat, by omega⟩
    exact back_right x0 x1 x2 x3 m w hR hm hL
  · exact back_wrong o a b c m w hR hL
end Go.Proofs.YtlohilpeidmemaaDoor
